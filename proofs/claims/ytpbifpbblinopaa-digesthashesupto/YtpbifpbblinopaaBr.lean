/- Rows of bytes that grow, whatever is marked behind them. -/
import Derived.Test.YtpbifpbblinopaaHsE
import Derived.Lib.ConvBytes
import Derived.Lib.AppendZeros
namespace Go.Proofs.Ytpbifpbblinopaa
open Go.RowKit

/-- a row of bytes, new since w -/
structure BR (w u : World) (g cap : Nat) (bs : List UInt8) : Prop where
  row : ∃ cur fr, u.heap[g]? = some (.cells cur 5 fr) ∧ cur.size = cap ∧ cur.toList.take bs.length = Lib.byteCells bs ∧ ∀ j, j < cap → u.frozen? ⟨g, j, none⟩ = false
  ge : w.heap.size ≤ g
  le : bs.length ≤ cap
  max : cap ≤ maxLen
  bel : Below w.heap.size w u
theorem BR.lt {w u : World} {g cap : Nat} {bs : List UInt8} (h : BR w u g cap bs) : g < u.heap.size := by
  obtain ⟨cur, fr, h1, _⟩ := h.row
  exact (Array.getElem?_eq_some_iff.1 h1).1
theorem BR.cell {w u : World} {g cap : Nat} {bs : List UInt8} (h : BR w u g cap bs) (j : Nat) (hj : j < bs.length) : u.cell? ⟨g, j, none⟩ = some (.int .u8 (bs[j].toNat : Int)) := by
  obtain ⟨cur, fr, h1, h2, h3, _⟩ := h.row
  have h4 : (cur.toList.take bs.length)[j]? = some (.int .u8 (bs[j].toNat : Int)) := by rw [h3, byteCells_at bs j hj]
  rw [List.getElem?_take_of_lt hj, Array.getElem?_toList] at h4
  simp only [World.cell?, h1]
  exact h4
theorem frozen_of_block {u u' : World} {g j : Nat} (e : u'.heap[g]? = u.heap[g]?) : u'.frozen? ⟨g, j, none⟩ = u.frozen? ⟨g, j, none⟩ := by simp [World.frozen?, e]
theorem BR.keep {w u u' : World} {g cap : Nat} {bs : List UInt8} (h : BR w u g cap bs) (e : u'.heap[g]? = u.heap[g]?) (hb : Below w.heap.size w u') : BR w u' g cap bs := by
  obtain ⟨cur, fr, h1, h2, h3, h4⟩ := h.row
  exact ⟨⟨cur, fr, e.trans h1, h2, h3, fun j hj => (frozen_of_block e).trans (h4 j hj)⟩, h.ge, h.le, h.max, hb⟩
theorem BR.below {w u u' : World} {g cap : Nat} {bs : List UInt8} (h : BR w u g cap bs) (hb : Below u.heap.size u u') : BR w u' g cap bs := h.keep (hb.block g h.lt) (h.bel.trans (hb.mono h.bel.size))
theorem BR.alloc {w u : World} {g cap : Nat} {bs : List UInt8} (h : BR w u g cap bs) (o : Obj) : BR w (u.alloc o) g cap bs := h.below ((Below.refl _ _).alloc (Nat.le_refl _) _)
theorem BR.own {w u u' : World} {v : Value} {n : Nat} {bs : List UInt8} (h : u'.ownsRow u.heap.size 5 1 v n (Lib.byteCells bs)) (hn : n = bs.length) (h0 : 0 < bs.length) (hw : w.heap.size ≤ u.heap.size) (hb : Below w.heap.size w u') : ∃ g cap, v = .slice (some ⟨g, 0, none⟩) bs.length cap ∧ u.heap.size ≤ g ∧ BR w u' g cap bs := by
  subst hn
  rcases h.2 with ⟨_, h1⟩ | ⟨g, cap, cur, hv, hge, hg, hn, hm, hs, ht⟩
  · omega
  · refine ⟨g, cap, hv, hge, ⟨cur, (0, 0), hg, by omega, by simpa using ht, fun j _ => by simp [World.frozen?, hg]⟩, by omega, hn, hm, hb⟩
theorem BR.append {w u : World} {g cap : Nat} {bs : List UInt8} (h : BR w u g cap bs) (ty : TypeId) (ad : Addr) (c m : Nat) (q : List UInt8) (hm : m = q.length) (h0 : 0 < q.length)
    (hsrc : ∀ (j : Nat) (hj : j < q.length), u.cell? (ad.add j) = some (.int .u8 (q[j].toNat : Int))) (hby : bs.length + q.length ≤ 140737488355328) :
    ∃ g' cap' u', (Builtin.append_ #[24, 24] ty #[.slice (some ⟨g, 0, none⟩) bs.length cap, .slice (some ad) m c]).run Try.prog u = .ok (.slice (some ⟨g', 0, none⟩) (bs.length + q.length) cap') u' ∧ BR w u' g' cap' (bs ++ q) ∧ U1 u u' g ∧ (g' = g ∨ u.heap.size ≤ g') := by
  subst hm
  obtain ⟨i0, hi, hz0, hz1, hz2⟩ := info_parts infoU8
  have hnews : ∀ j x, (Lib.byteCells q)[j]? = some x → u.cell? (ad.add j) = some x := by
    intro j x hx
    have hj : j < q.length := by have := (List.getElem?_eq_some_iff.1 hx).1; rwa [byteCells_len] at this
    rw [byteCells_at q j hj] at hx
    rw [hsrc j hj, hx]
  obtain ⟨cur, fr, h1, h2, h3, h4⟩ := h.row
  have hle := h.le
  by_cases hroom : bs.length + q.length ≤ cap
  · have hr := run_append_room_cells (P := Try.prog) u 24 ty 5 i0 Try.underlying24 hi g 0 bs.length cap ad q.length c (Lib.byteCells q) (by rw [byteCells_len, hz1, Nat.mul_one]) hnews (byteCells_one q) hroom
      (fun j hj => by
        rw [byteCells_len] at hj
        have : bs.length + j < cur.size := by omega
        simp [World.cell?, h1, hz1, this]) (fun j hj => by rw [byteCells_len] at hj; rw [hz1]; simpa using h4 (bs.length + j) (by omega))
    rw [hz1, Nat.mul_one, Nat.zero_add] at hr
    have hcl0 : cur.toList.length = cap := (Array.length_toList).trans h2
    have hcl : bs.length + (Lib.byteCells q).length ≤ cur.toList.length := by rw [byteCells_len, hcl0]; exact hroom
    have h1' : u.heap[g]? = some (.cells cur.toList.toArray 5 fr) := by simpa using h1
    have hrow := heap_setCells (Lib.byteCells q) bs.length u cur.toList h1' hcl
    have hu : U1 u (u.setCells g bs.length (Lib.byteCells q)) g := U1.cells _ _ _ (U1.refl _ _)
    refine ⟨g, cap, _, hr, ⟨⟨_, fr, hrow, ?_, ?_, ?_⟩, h.ge, by simpa using hroom, h.max, h.bel.trans (hu.toBelow h.bel.size h.ge)⟩, hu, .inl rfl⟩
    · rw [List.size_toArray, splice_len _ _ _ hcl, hcl0]
    · have ht := splice_take cur.toList bs.length (Lib.byteCells q) hcl
      rw [byteCells_len] at ht
      rw [List.length_append, ht, h3]
      simp [Lib.byteCells]
    · intro j hj
      rw [World.frozen?_setCells]
      exact h4 j hj
  · obtain ⟨v', u', hr, ho, hgr⟩ := run_append_arg_grows (P := Try.prog) u 24 ty 5 i0 (.int .u8 0) 1 1 Try.underlying24 hi hz0 hz1 hz2 rfl (by decide) ⟨g, 0, none⟩ bs.length cap (Lib.byteCells bs) (by rw [byteCells_len, Nat.mul_one])
      (fun j x hx => by
        have hj : j < bs.length := by have := (List.getElem?_eq_some_iff.1 hx).1; rwa [byteCells_len] at this
        rw [byteCells_at bs j hj] at hx
        rw [Addr.add_mid, Nat.zero_add, h.cell j hj, hx]) ad q.length c (Lib.byteCells q) (by rw [byteCells_len, Nat.mul_one]) hnews (by omega) (by simp only [maxLen]; omega) (by omega)
    obtain ⟨g1, g2, g3, g4, g5⟩ := hgr
    have hbel : Below u.heap.size u u' := ⟨g1, g2, g3, g4, fun k hk => g5 k hk (by simp)⟩
    have ho' : u'.ownsRow u.heap.size 5 1 v' (bs.length + q.length) (Lib.byteCells (bs ++ q)) := by rw [show Lib.byteCells (bs ++ q) = Lib.byteCells bs ++ Lib.byteCells q from by simp [Lib.byteCells]]; exact ho
    obtain ⟨g', cap', rfl, hge, hbr⟩ := BR.own (w := w) ho' (by simp) (by simp; omega) h.bel.size (h.bel.trans (hbel.mono h.bel.size))
    rw [List.length_append] at hr
    exact ⟨g', cap', u', hr, hbr, U1.below' hbel, .inr hge⟩
/-- the bytes of a text, in new memory -/
theorem conv_br (w : World) (s : ByteArray) (hs : s.size ≤ 140737488355328) : ∃ g cap u, (convert 9 24 (.string s)).run Try.prog w = .ok (.slice (some ⟨g, 0, none⟩) s.size cap) u ∧ BR w u g cap s.data.toList := by
  refine ⟨_, _, _, Lib.run_convert_string_bytes w 9 24 5 s Try.underlying9 Try.underlying24 Try.underlying5, ?_⟩
  have hge := grownCap_ge w s.size 0 5
  have hle := grownCap_le_maxLen w s.size 0 5 (by simp only [maxLen]; omega)
  have hl := list_size s
  have hnew := Lib.bytesWorld_at_new w 5 s
  have hsz : (Lib.bytesCells w 5 s).size = grownCap w s.size 0 5 := by
    simp only [Lib.bytesCells, Array.size_append, Array.size_map, Array.size_replicate]
    have : s.data.size = s.size := rfl
    omega
  refine ⟨⟨_, _, hnew, hsz, ?_, ?_⟩, Nat.le_refl _, by omega, hle, ⟨rfl, rfl, rfl, by rw [Lib.bytesWorld_size]; omega, fun k hk => Lib.bytesWorld_at_old w _ s k hk⟩⟩
  · simp only [Lib.bytesCells, Array.toList_append, Array.toList_map]
    rw [List.take_append_of_le_length (by simp), List.take_of_length_le (by simp)]
    rfl
  · intro j hj
    simp only [World.frozen?, hnew]
    rw [hsz]
    simp
    omega
end Go.Proofs.Ytpbifpbblinopaa
