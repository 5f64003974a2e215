/- Nodes: a twin of a node. -/
import Derived.Test.YtppmpomfihalfaaNrg
import Derived.Laws.AppendOwnNone
namespace Go.Proofs.Ytppmpomfihalfaa
open Go.RowKit

/-- 'append(nil, xs...)', xs nil, empty or not. -/
theorem wpList_twin {ops : Array Oper} {rest : List Oper} {o : Oper} {a : Act} {w : World} {Q : Exit → Act → World → Prop} (hgd : o.guard = none) (s x : Operand) (t : TypeId)
    (ho : o.op = .call { callee := .builtin .append, args := #[s, x], argTypes := #[t, t] }) (d : Option Tmp) (hd : o.dst = d)
    (e : TypeId) (i : TypeInfo) (z : Value) (size bytes : Nat) (ht : Try.prog.underlying t = some (.slice e)) (hi : Try.prog.info? e = some i ∧ i.zero = some z ∧ i.size = size ∧ i.bytes = bytes) (hzs : z.cells.size = size) (hsz : 0 < size)
    (hs : a.eval s = .slice none 0 0) (ao : Option Addr) (m c : Nat) (news : List Value) (hx : a.eval x = .slice ao m c) (hnil : ao = none → c = 0) (hl : news.length = m * size) (hnews : Lies w ao news) (h1 : ∀ u ∈ news, u.oneCell' = true)
    (hbytes : m * bytes ≤ 140737488355328) (hm : m ≤ 140737488355328)
    (h : ∀ ao' c' w', Hid (w'.ownsRow w.heap.size e size (.slice ao' m c') m news) → Hid (w.grownBy w' none) → wpList Try.prog ops Q rest (a.put d (.slice ao' m c')) w') : wpList Try.prog ops Q (o :: rest) a w := by
  subst hd
  cases ao with
  | none =>
    obtain rfl := hnil rfl
    have hm0 : m = 0 := by
      rcases Nat.eq_zero_or_pos m with h0 | h0
      · exact h0
      · obtain ⟨g, o, he, _⟩ := hnews (by rw [hl]; exact Nat.mul_pos h0 hsz)
        cases he
    subst hm0
    obtain rfl : news = [] := List.eq_nil_of_length_eq_zero (by simpa using hl)
    exact wpList_append_own_none hgd s x t ho w.heap.size e i size ht hi.1 (.slice none 0 0) 0 [] hs (World.ownsRow_nil _ _ _ _) hx (h none 0 w (World.ownsRow_nil _ _ _ _) (World.grownBy.refl _ _))
  | some ad =>
    refine W.wpList_put w hgd s x t ho w.heap.size e i z size bytes ht hi.1 hi.2.1 hi.2.2.1 hi.2.2.2 hzs hsz (.slice none 0 0) 0 [] hs (World.ownsRow_nil _ _ _ _) ad m c news hx hl (fun j u hu => ?_) h1 (by simp only [maxLen]; omega) (by rw [Nat.zero_add]; exact hbytes) (Nat.le_refl _) ?_
    · obtain ⟨g, o, he, hr⟩ := hnews (by have := (List.getElem?_eq_some_iff.1 hu).1; omega)
      cases he
      rw [Addr.add_mid]
      exact hr j u hu
    · intro v' w' h2 h3 _
      rw [Nat.zero_add, List.nil_append] at h2
      obtain ⟨ao', cp', rfl⟩ := W.owns_shape h2
      exact h ao' cp' w' h2 h3
theorem own_liesS {w : World} {base size : Nat} {e : TypeId} {ao : Option Addr} {n cp : Nat} {xs : List Value} (h : w.ownsRow base e size (.slice ao n cp) n xs) : Lies w ao xs ∧ n ≤ cp ∧ (ao = none → cp = 0) ∧ ∀ b o, ao = some ⟨b, o, none⟩ → base ≤ b ∧ b < w.heap.size := by
  have hlen := h.1
  rcases h.2 with ⟨hv, hn⟩ | ⟨g, cap, cur, hv, h1, h2, h3, h4, h5, h6⟩
  · cases hv
    exact ⟨fun h0 => by rw [hlen, hn] at h0; simp at h0, Nat.le_refl _, fun _ => rfl, fun b o e => by cases e⟩
  · cases hv
    refine ⟨fun h0 => ⟨g, 0, rfl, fun j x hx => ?_⟩, h3, (fun e => by cases e), (fun b o e => by cases e; exact ⟨h1, (Array.getElem?_eq_some_iff.1 h2).1⟩)⟩
    simp only [World.cell?, h2, Nat.zero_add]
    rw [← h6] at hx
    rw [List.getElem?_take] at hx
    split at hx
    · simpa using hx
    · cases hx
/-- what a nil list's room is -/
structure Nv.Nil (a : Nv) : Prop where
  c : a.ca = none → a.cc = 0
  k : a.ka = none → a.kc = 0
  g : a.ga = none → a.gc = 0
/-- the world of twin: a box, the result, and the node that is made -/
structure Tw (u w : World) (N : Nat) (bx : Array Value) (c : Array Value) : Prop where
  bel : Below N u w
  box : w.heap[N]? = some (.cells bx 26 (0, 0))
  res : w.heap[N + 1]? = some (.cells #[.bool false, .slice none 0 0, .slice none 0 0, .slice none 0 0] 26 (0, 0))
  made : w.heap[N + 2]? = some (.cells c 26 (0, 0))
theorem Tw.sz {u w : World} {N : Nat} {bx c : Array Value} (h : Tw u w N bx c) : N + 3 ≤ w.heap.size := (Array.getElem?_eq_some_iff.1 h.made).1
theorem Tw.grow {u w w' : World} {N : Nat} {bx c : Array Value} (h : Tw u w N bx c) (hg : w.grownBy w' none) : Tw u w' N bx c := by
  have hs := h.sz
  have hb : Below w.heap.size w w' := (Below.refl _ _).grown hg (Nat.le_refl _) (fun k hk => by cases hk)
  exact ⟨h.bel.trans (hb.mono (by omega)), box_below h.box hb, box_below h.res hb, box_below h.made hb⟩
theorem Tw.set {u w : World} {N : Nat} {bx c : Array Value} (h : Tw u w N bx c) (k : Nat) (v : Value) : Tw u (w.setCell ⟨N + 2, k, none⟩ v) N bx (c.setIfInBounds k v) := by
  refine ⟨belowCell (p := ⟨N + 2, k, none⟩) h.bel (show N ≤ N + 2 by omega) v, ?_, ?_, heapCell_same h.made k v⟩
  · rw [Below.heap_setCell w ⟨N + 2, k, none⟩ v N (by show N ≠ N + 2; omega)]; exact h.box
  · rw [Below.heap_setCell w ⟨N + 2, k, none⟩ v (N + 1) (by show N + 1 ≠ N + 2; omega)]; exact h.res
/-- a list that lies behind the node that is made -/
structure Fr (w : World) (N : Nat) (ao : Option Addr) (xs : List Value) : Prop where
  lies : Lies w ao xs
  far : ∀ b o, ao = some ⟨b, o, none⟩ → N + 3 ≤ b ∧ b < w.heap.size
theorem Fr.grow {w w' : World} {N : Nat} {ao : Option Addr} {xs : List Value} (h : Fr w N ao xs) (hg : w.grownBy w' none) : Fr w' N ao xs :=
  ⟨h.lies.below ((Below.refl _ _).grown hg (Nat.le_refl _) (fun k hk => by cases hk)), fun b o e => ⟨(h.far b o e).1, Nat.lt_of_lt_of_le (h.far b o e).2 hg.size⟩⟩
theorem Fr.set {w : World} {N : Nat} {ao : Option Addr} {xs : List Value} (h : Fr w N ao xs) (k : Nat) (v : Value) : Fr (w.setCell ⟨N + 2, k, none⟩ v) N ao xs := by
  refine ⟨fun h0 => ?_, fun b o e => ⟨(h.far b o e).1, Nat.lt_of_lt_of_le (h.far b o e).2 (belowCell (p := ⟨N + 2, k, none⟩) (Below.refl (N + 2) w) (Nat.le_refl _) v).size⟩⟩
  obtain ⟨g, o, he, hr⟩ := h.lies h0
  have hf := (h.far g o he).1
  refine ⟨g, o, he, fun j x hx => ?_⟩
  have := hr j x hx
  simp only [World.cell?] at this ⊢
  rw [Below.heap_setCell w ⟨N + 2, k, none⟩ v g (by show g ≠ N + 2; omega)]
  exact this
theorem Fr.row {w : World} {N g : Nat} {ao : Option Addr} {xs : List Value} (h : Fr w N ao xs) (hg : g < N + 3) (cs : Array Value) : Lies (w.setRow g cs) ao xs :=
  h.lies.setRow g cs fun b o e => by have := (h.far b o e).1; omega
theorem own_fr {w : World} {N base size : Nat} {e : TypeId} {ao : Option Addr} {n cp : Nat} {xs : List Value} (h : w.ownsRow base e size (.slice ao n cp) n xs) (hb : N + 3 ≤ base) : Fr w N ao xs :=
  ⟨(own_liesS h).1, fun b o e => ⟨Nat.le_trans hb ((own_liesS h).2.2.2 b o e).1, ((own_liesS h).2.2.2 b o e).2⟩⟩
theorem kid_parts : ∃ i, Try.prog.info? 50 = some i ∧ i.zero = some (.int .u32 0) ∧ i.size = 1 ∧ i.bytes = 4 := by
  have h : (Try.prog.info? 50).map (fun i => (i.zero, i.size, i.bytes)) = some (some (.int .u32 0), 1, 4) := by kernel_rfl
  obtain ⟨i, hi, h2⟩ := Option.map_eq_some_iff.1 h
  simp only [Prod.mk.injEq] at h2
  exact ⟨i, hi, h2⟩
end Go.Proofs.Ytppmpomfihalfaa
