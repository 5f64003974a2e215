/- NodeHolds: what its loops keep. -/
import Derived.Test.YtjkcnjjjfbpjiaaNy
namespace Go.Proofs.Ytjkcnjjjfbpjiaa
open Go.RowKit

/-- a step -/
structure Ct where
  take : Bool
  key : ByteArray
  val : ByteArray
def Ct.cs (c : Ct) : List Value := [.bool c.take, .string c.key, .string c.val]
/-- steps that came in -/
structure Cts (w : World) (ao : Option Addr) (l : List Ct) : Prop where
  at' : 0 < l.length → ∃ g o, ao = some ⟨g, o, none⟩ ∧ ∀ (j : Nat) (hj : j < l.length), w.rangeAt g (o + j * 3) l[j].cs
  len : l.length ≤ 140737488355328
  str : ∀ c ∈ l, c.key.size ≤ 140737488355328 ∧ c.val.size ≤ 140737488355328
theorem ixCuts (g o n c i : Nat) (hi : i < n) (W : World) : (Instr.indexAt 62 (.slice (some ⟨g, o, none⟩) n c) (.int .i64 (i : Int))).run Try.prog W = .ok (.pointer (some ⟨g, o + i * 3, none⟩)) W := by
  have he : Try.prog.elem 62 = 64 := by kernel_rfl
  rw [run_indexAt_slice W 62 _ _ _ _ _ (by rw [he]; kernel_rfl), if_pos ⟨by omega, by omega⟩, he, sizeN (n := 3) (by kernel_rfl)]
  simp only [Result.andThen_ok, Int.toNat_natCast, Addr.add_mid]
theorem zeroCut : ((Try.prog.info? 64).bind (·.zero)).map (·.cells) = some #[.bool false, .string ⟨#[]⟩, .string ⟨#[]⟩] := by kernel_rfl
theorem cutInfo : (Try.prog.info? 64).map (·.size) = some 3 := by kernel_rfl
theorem cut_one (t : Bool) (a b : ByteArray) : (#[.bool t, .string a, .string b] : Array Value).all (·.oneCell') = true := by
  rw [Array.all_eq_true']
  intro v hv
  simp only [List.mem_toArray, List.mem_cons, List.not_mem_nil, or_false] at hv
  rcases hv with rfl | rfl | rfl <;> rfl
theorem wpList_alloc_cut {ops : Array Oper} {rest : List Oper} {o : Oper} {a : Act} {w : World} {Q : Exit → Act → World → Prop} (hg : o.guard = none) (ho : o.op = .alloc 64) (d : Option Tmp) (hd : o.dst = d) (N : Nat) (hN : N = w.heap.size)
    (h : ∀ w', Hid (w'.heap[N]? = some (.cells #[.bool false, .string ⟨#[]⟩, .string ⟨#[]⟩] 64 (0, 0))) → Hid (Below N w w') → Hid (w'.heap.size = N + 1) → wpList Try.prog ops Q rest (a.put d (.pointer (some ⟨N, 0, none⟩))) w') : wpList Try.prog ops Q (o :: rest) a w :=
  wpList_alloc_row hg _ ho d hd N hN.symm _ zeroCut h
theorem wpList_store_cut {ops : Array Oper} {rest : List Oper} {o : Oper} {a : Act} {w : World} {Q : Exit → Act → World → Prop} (hgd : o.guard = none) (x y : Operand) (ho : o.op = .store 64 x y) (g : Nat) (t : Bool) (q p : ByteArray) (hx : a.eval x = .pointer (some ⟨g, 0, none⟩)) (hy : a.eval y = .agg #[.bool t, .string q, .string p])
    {c0 c1 c2 : Value} (hg : w.heap[g]? = some (.cells #[c0, c1, c2] 64 (0, 0)))
    (h : ∀ w', Hid (w'.heap[g]? = some (.cells #[.bool t, .string q, .string p] 64 (0, 0))) → Hid (w' = w.setRow g #[.bool t, .string q, .string p]) → wpList Try.prog ops Q rest (a.put o.dst undef) w') : wpList Try.prog ops Q (o :: rest) a w :=
  wpList_store_hid hgd _ x y ho g _ hx hy _ _ hg cutInfo rfl (cut_one _ _ _) h
theorem box3 {W : World} {N : Nat} {c0 c1 c2 : Value} {t : TypeId} (h : W.heap[N]? = some (.cells #[c0, c1, c2] t (0, 0))) : W.cell? ⟨N, 0, none⟩ = some c0 ∧ W.cell? ⟨N, 1, none⟩ = some c1 ∧ W.cell? ⟨N, 2, none⟩ = some c2 := by
  refine ⟨?_, ?_, ?_⟩ <;> simp [World.cell?, h]
theorem own_base {w : World} {b b' : Nat} {e : TypeId} {size : Nat} {v : Value} {n : Nat} {xs : List Value} (h : w.ownsRow b e size v n xs) (hb : b' ≤ b) : w.ownsRow b' e size v n xs := by
  refine ⟨h.1, ?_⟩
  rcases h.2 with h | ⟨g, cap, cur, h1, h2, h3⟩
  · exact .inl h
  · exact .inr ⟨g, cap, cur, h1, Nat.le_trans hb h2, h3⟩
theorem own_lies {w : World} {b : Nat} {ao : Option Addr} {n c : Nat} {xs : List Value} {e : TypeId} {size : Nat} (h : w.ownsRow b e size (.slice ao n c) n xs) : Lies w ao xs := fun h0 => by
  rcases h.2 with ⟨_, hn⟩ | ⟨g, cap, cur, hv, h1, h2, h3, h4, h5, h6⟩
  · rw [h.1, hn] at h0; simp at h0
  · cases hv
    refine ⟨g, 0, rfl, fun j x hx => ?_⟩
    simp only [World.cell?, h2, Nat.zero_add]
    rw [← h6] at hx
    rw [List.getElem?_take] at hx
    split at hx
    · simpa using hx
    · cases hx
/-- what the rounds keep -/
structure Hw (w wr : World) (B M : Nat) (cs : List Cl) (ca : Option Addr) (cc : Nat) (held : List Cl) (v : Value) : Prop where
  hB : B = w.heap.size
  bel : Below B w wr
  le : B ≤ M
  box : wr.heap[M]? = some (.cells #[.bool true, .slice ca cs.length cc, .slice none 0 0, .slice none 0 0] 26 (0, 0))
  nd : NdAt wr ⟨true, cs, [], []⟩ ⟨ca, cc, none, 0, none, 0⟩
  far : ∀ b o, ca = some ⟨b, o, none⟩ → M < b
  lf : Lf ⟨true, cs, [], []⟩
  perm : held.Perm cs
  own : wr.ownsRow (M + 1) 66 2 v held.length (flatC held)
section
variable {w wr w2 : World} {B M : Nat} {cs : List Cl} {ca : Option Addr} {cc : Nat} {held : List Cl} {v : Value}
theorem Hw.lt (h : Hw w wr B M cs ca cc held v) : M < wr.heap.size := (Array.getElem?_eq_some_iff.1 h.box).1
theorem Hw.new (h : Hw w wr B M cs ca cc held v) (hb : Below wr.heap.size wr w2) : Hw w w2 B M cs ca cc held v :=
  ⟨h.hB, h.bel.trans (hb.mono (by have := h.lt; have := h.le; omega)), h.le, (hb.block M h.lt).trans h.box, h.nd.below hb, h.far, h.lf, h.perm, W.owns_same h.own fun k hk => hb.block k (own_lt' h.own hk).2⟩
/-- the node turned, and the list -/
theorem Hw.turn (h : Hw w wr B M cs ca cc held v) {cs' : List Cl} {G cc' : Nat} {held' : List Cl} {v' : Value} (hn : NdAt wr ⟨true, cs', [], []⟩ ⟨some ⟨G, 0, none⟩, cc', none, 0, none, 0⟩) (hG : M < G) (hl : Lf ⟨true, cs', [], []⟩) (hp : held'.Perm cs') (ho : wr.ownsRow (M + 1) 66 2 v' held'.length (flatC held')) :
    Hw w (wr.setRow M #[.bool true, .slice (some ⟨G, 0, none⟩) cs'.length cc', .slice none 0 0, .slice none 0 0]) B M cs' (some ⟨G, 0, none⟩) cc' held' v' := by
  refine ⟨h.hB, belowRow h.bel h.le _, h.le, heapRow_same h.box _, hn.setRow M _ (by omega), fun b o e => (by cases e; exact hG), hl, hp, W.owns_same ho fun k hk => ?_⟩
  have := own_lt' ho hk
  exact heapRow_other wr M k _ (by omega)
end
theorem nLong (s : ByteArray) (hs : s.size ≤ 140737488355328) (u : World) : Calls Try.prog 62 #[.string s] u fun e u' => e = .returned (.int .i64 (tsz s : Int)) ∧ u' = u := by
  by_cases h : s.size < 128
  · have hi : (s.size : Int) < 128 := by omega
    rw [show tsz s = 1 + s.size from if_pos h]
    go_enter Try.func62, Try.ntmps62
    go_wp2
    go_ret
    exact ⟨by simp, rfl⟩
  · have hi : ¬ (s.size : Int) < 128 := by omega
    rw [show tsz s = 2 + s.size from if_neg h]
    go_enter Try.func62, Try.ntmps62
    go_wp2
    go_ret
    exact ⟨by simp, rfl⟩
end Go.Proofs.Ytjkcnjjjfbpjiaa
