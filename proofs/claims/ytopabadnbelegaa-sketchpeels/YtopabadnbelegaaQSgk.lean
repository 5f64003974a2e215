/- Segments: turned, anew; the walk of SegmentForms. Written by mksgk.py. -/
import Derived.Test.YtopabadnbelegaaQSgj
namespace Go.Proofs.Ytopabadnbelegaa.S
open Go.RowKit Go.Lib
theorem brSet {w u : World} {g cap : Nat} {bs : List UInt8} (h : D.BR w u g cap bs) (k : Nat) (b : UInt8) : D.BR w (u.setCell ⟨g, k, none⟩ (.int .u8 (b.toNat : Int))) g cap (bs.set k b) := by
  obtain ⟨cur, fr, h1, h2, h3, h4⟩ := h.row
  have hle := h.le
  have hn := D.heapCell_same h1 k (.int .u8 (b.toNat : Int))
  refine ⟨⟨_, fr, hn, by rw [Array.size_setIfInBounds, h2], ?_, fun j hj => ?_⟩, h.ge, by rw [List.length_set]; exact hle, h.max, D.belowCell h.bel (p := ⟨g, k, none⟩) h.ge _⟩
  · rw [List.length_set, Array.toList_setIfInBounds, List.take_set, h3]
    simp [Lib.byteCells, List.map_set]
  · have h5 := h4 j hj
    unfold World.frozen? at h5 ⊢
    rw [hn]
    rw [h1] at h5
    exact h5
theorem brFrozen {w u : World} {g cap : Nat} {bs : List UInt8} (h : D.BR w u g cap bs) (k : Nat) (hk : k < bs.length) : u.frozen? ⟨g, k, none⟩ = false := by
  obtain ⟨cur, fr, h1, h2, h3, h4⟩ := h.row
  exact h4 k (Nat.lt_of_lt_of_le hk h.le)
theorem xor_u8 (b : UInt8) : ∃ c : UInt8, bits .xor .u8 (b.toNat : Int) 1 = (c.toNat : Int) := by
  refine ⟨b ^^^ 1, ?_⟩
  show IntKind.u8.wrap ((BitVec.ofInt 8 (b.toNat : Int) ^^^ BitVec.ofInt 8 1).toNat : Int) = _
  have e1 : BitVec.ofInt 8 (b.toNat : Int) = b.toBitVec := by
    apply BitVec.eq_of_toNat_eq
    simp
  rw [e1]
  have h2 : ((b.toBitVec ^^^ BitVec.ofInt 8 1).toNat : Int) = ((b ^^^ 1).toNat : Int) := rfl
  rw [h2, IntKind.wrap_u8]
  have := (b ^^^ 1).toNat_lt
  omega
theorem ixB (g n c i : Nat) (hi : i < n) (W : World) : (Instr.indexAt 81 (.slice (some ⟨g, 0, none⟩) n c) (.int .i64 (i : Int))).run Try.prog W = .ok (.pointer (some ⟨g, i, none⟩)) W := by
  have he : Try.prog.elem 81 = 5 := by kernel_rfl
  rw [run_indexAt_slice W 81 _ _ _ _ _ (by rw [he]; kernel_rfl), if_pos ⟨by omega, by omega⟩, he, sizeN (n := 1) (by kernel_rfl)]
  simp only [Result.andThen_ok, Int.toNat_natCast, Addr.add_mid, Nat.mul_one, Nat.zero_add]
theorem flat_set1 : ∀ (l : List En) (k : Nat) (t : ByteArray) (hk : k < l.length), (RE.flat l).set (k * 2 + 1) (.string t) = RE.flat (l.set k (l[k].1, t))
  | [], _, _, hk => absurd hk (Nat.not_lt_zero _)
  | e :: l, 0, t, _ => by simp [Rec.flat, RE, ecs]
  | e :: l, k + 1, t, hk => by
    have ih := flat_set1 l k t (by simpa using hk)
    have e1 : ∀ (x : En) (m : List En), RE.flat (x :: m) = .string x.1 :: .string x.2 :: RE.flat m := fun x m => rfl
    rw [e1, show (k + 1) * 2 + 1 = k * 2 + 1 + 1 + 1 by omega, List.set_cons_succ, List.set_cons_succ, ih, List.set_cons_succ, e1]
    simp
theorem Own.set1 {w : World} {B : Nat} {l : List En} {g c : Nat} (h : RE.Own w B l (some ⟨g, 0, none⟩) c) (k : Nat) (t : ByteArray) (hk : k < l.length) : RE.Own (w.setCell ⟨g, k * 2 + 1, none⟩ (.string t)) B (l.set k (l[k].1, t)) (some ⟨g, 0, none⟩) c := by
  show (w.setCell ⟨g, k * 2 + 1, none⟩ (.string t)).ownsRow B 36 2 _ (l.set k (l[k].1, t)).length _
  rw [List.length_set]
  have s2 := (World.ownsRow.stored h (k * 2 + 1) (.string t)).1
  rw [flat_set1 l k t hk] at s2
  exact s2
theorem Le.set1 {w : World} {B : Nat} {l : List En} {g n cc : Nat} (h : Le w B l g n cc) (k : Nat) (t : ByteArray) (hk : k < l.length) : Le (w.setCell ⟨g, k * 2 + 1, none⟩ (.string t)) B (l.set k (l[k].1, t)) g n cc := by
  refine ⟨?_, by rw [List.length_set]; exact h.hn, by rw [List.length_set]; exact h.many⟩
  have h1 := Own.set1 h.own k t (by rw [List.length_append]; omega)
  rw [List.getElem_append_left hk, List.set_append_left _ _ hk] at h1
  exact h1
theorem Le.blk {w : World} {B : Nat} {l : List En} {g n cc : Nat} (h : Le w B l g n cc) : B ≤ g ∧ g < w.heap.size := World.ownsRow.lt h.own g rfl
theorem Le.frozen {w : World} {B : Nat} {l : List En} {g n cc : Nat} (h : Le w B l g n cc) (k : Nat) : w.frozen? ⟨g, k, none⟩ = false := World.ownsRow.frozenAt h.own _
theorem Own.empty (W : World) (B : Nat) (hB : B ≤ W.heap.size) : RE.Own (W.alloc (.cells #[] 36)) B [] (some ⟨W.heap.size, 0, none⟩) 0 :=
  ⟨rfl, .inr ⟨W.heap.size, 0, #[], rfl, hB, heap_alloc_new _ _, Nat.le_refl _, by decide, rfl, rfl⟩⟩
end Go.Proofs.Ytopabadnbelegaa.S
