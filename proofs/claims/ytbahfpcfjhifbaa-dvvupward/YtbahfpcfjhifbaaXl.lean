/- Vectors: a vector out of any dots. -/
import Derived.Test.YtbahfpcfjhifbaaXk
namespace Go.Proofs.Ytbahfpcfjhifbaa
open Go.RowKit
theorem flatD_set : ∀ (l : List (Nat × Nat)) (k : Nat) (q p : Nat), ((flatD l).set (k * 2) (.int .u32 (q : Int))).set (k * 2 + 1) (.int .u64 (p : Int)) = flatD (l.set k (q, p))
  | [], k, q, p => by simp [flatD]
  | c :: cs, 0, q, p => by simp [flatD, dcs]
  | c :: cs, k + 1, q, p => by
    have ih := flatD_set cs k q p
    have e : flatD (c :: cs) = .int .u32 (c.1 : Int) :: .int .u64 (c.2 : Int) :: flatD cs := rfl
    rw [e, show (k + 1) * 2 = k * 2 + 1 + 1 by omega, List.set_cons_succ, List.set_cons_succ, List.set_cons_succ, List.set_cons_succ, ih]
    rfl
section
variable {w : World} {B : Nat} {l : List (Nat × Nat)} {g c : Nat}
theorem OwnD.set (h : OwnD w B l (some ⟨g, 0, none⟩) c) (k q p : Nat) : OwnD (w.setCells g (k * 2) [.int .u32 (q : Int), .int .u64 (p : Int)]) B (l.set k (q, p)) (some ⟨g, 0, none⟩) c := by
  show ((w.setCell ⟨g, k * 2, none⟩ (.int .u32 (q : Int))).setCell ⟨g, k * 2 + 1, none⟩ (.int .u64 (p : Int))).ownsRow B 43 2 _ (l.set k (q, p)).length _
  rw [List.length_set]
  have s2 := (World.ownsRow.stored h (k * 2) (.int .u32 (q : Int))).1
  have s3 := (s2.stored (k * 2 + 1) (.int .u64 (p : Int))).1
  rw [flatD_set] at s3
  exact s3
theorem OwnD.there (h : OwnD w B l (some ⟨g, 0, none⟩) c) {k : Nat} (hk : k < l.length) : w.there g (k * 2) 2 := fun j hj => by
  have hl : (flatD l).length = l.length * 2 := flatD_len l
  refine ⟨?_, World.ownsRow.frozenAt h _⟩
  rw [World.ownsRow.cellAt h (k * 2 + j) (by omega), List.getElem?_eq_getElem (by omega)]
  rfl
theorem OwnD.blk (h : OwnD w B l (some ⟨g, 0, none⟩) c) : B ≤ g ∧ g < w.heap.size := World.ownsRow.lt h g rfl
end
theorem OwnD.pos {w : World} {B : Nat} {l : List (Nat × Nat)} {ao : Option Addr} {c : Nat} (h : OwnD w B l ao c) (h0 : 0 < l.length) : ∃ g, ao = some ⟨g, 0, none⟩ := by
  rcases h.2 with ⟨_, hn⟩ | ⟨g, cap, cur, hv, h1, h2, h3, h4, h5, h6⟩
  · omega
  · simp only [Value.slice.injEq] at hv; exact ⟨g, hv.1⟩
theorem belowCells {B : Nat} {a w : World} (h : Below B a w) {g k : Nat} (hg : B ≤ g) (x y : Value) : Below B a (w.setCells g k [x, y]) := belowCell (p := ⟨g, k + 1, none⟩) (belowCell (p := ⟨g, k, none⟩) h hg x) hg y
theorem cells_other (w : World) {g k M : Nat} (x y : Value) (h : M ≠ g) : (w.setCells g k [x, y]).heap[M]? = w.heap[M]? := by
  show ((w.setCell ⟨g, k, none⟩ x).setCell ⟨g, k + 1, none⟩ y).heap[M]? = w.heap[M]?
  rw [Below.heap_setCell _ ⟨g, k + 1, none⟩ y M h, Below.heap_setCell _ ⟨g, k, none⟩ x M h]
theorem cells_size (w : World) {g k : Nat} (x y : Value) : (w.setCells g k [x, y]).heap.size = w.heap.size := by
  show ((w.setCell ⟨g, k, none⟩ x).setCell ⟨g, k + 1, none⟩ y).heap.size = w.heap.size
  simp
theorem wp_alloc_dot {o : Oper} {a : Act} {w : World} {K : Act → World → Prop} {Q : Exit → Act → World → Prop} (ho : o.op = .alloc 43) (d : Option Tmp) (hd : o.dst = d) (h : K (a.put d (.pointer (some ⟨w.heap.size, 0, none⟩))) (w.alloc (.cells #[.int .u32 0, .int .u64 0] 43))) : o.wp Try.prog a w K Q := by
  subst hd
  obtain ⟨z, h1, h2⟩ := zero_run zeroDot w
  unfold Oper.wp execOp
  simp only [ho, Sem.run_bind, Instr.alloc, h1, newVar, newRow, run_newObj_alloc, Sem.run_pure, Result.andThen_ok, h2]
  exact h
theorem wp_store_dot {o : Oper} {a : Act} {w : World} {K : Act → World → Prop} {Q : Exit → Act → World → Prop} (x y : Operand) (ho : o.op = .store 43 x y) (hd : o.dst = none) (g : Nat) (q p : Int) (hx : a.eval x = .pointer (some ⟨g, 0, none⟩)) (hy : a.eval y = .agg #[.int .u32 q, .int .u64 p])
    {q0 p0 : Value} (hg : w.heap[g]? = some (.cells #[q0, p0] 43 (0, 0)))
    (h : ∀ w', Hid (w'.heap[g]? = some (.cells #[.int .u32 q, .int .u64 p] 43 (0, 0))) → Hid (w' = w.setRow g #[.int .u32 q, .int .u64 p]) → K a w') : o.wp Try.prog a w K Q :=
  wp_store_row 43 x y ho g #[.int .u32 q, .int .u64 p] hx hy 43 _ hg dotInfo rfl (dot_one _ _) (by rw [hd]; exact h _ (heapRow_same hg _) rfl)
theorem put_set (v : List (Nat × Nat)) (q : Nat) (y : Nat × Nat) (h : q < v.length) : (V.put v (q + 1) y).set (q + 1) v[q] = V.put v q v[q] := by
  unfold V.put
  have hl : (v.take (q + 1)).length = q + 1 := by rw [List.length_take]; omega
  rw [List.set_append_right _ _ (by omega), hl, Nat.sub_self, List.set_cons_zero, List.take_succ_eq_append_getElem h, List.append_assoc, List.drop_eq_getElem_cons h]
  rfl
theorem put_last (v : List (Nat × Nat)) (q : Nat) (y d : Nat × Nat) (h : q ≤ v.length) : (V.put v q y).set q d = V.put v q d := by
  unfold V.put
  have hl : (v.take q).length = q := by rw [List.length_take]; omega
  rw [List.set_append_right _ _ (by omega), hl, Nat.sub_self, List.set_cons_zero]
theorem put_get (v : List (Nat × Nat)) (q j : Nat) (y : Nat × Nat) (h : j < q) (hq : q ≤ v.length) : (V.put v q y)[j]'(by rw [V.put_len hq]; omega) = v[j] := by
  unfold V.put
  rw [List.getElem_append_left (by rw [List.length_take]; omega), List.getElem_take]
theorem put_end (v : List (Nat × Nat)) (d : Nat × Nat) : v ++ [d] = V.put v v.length d := by unfold V.put; simp
theorem fits_put {v : List (Nat × Nat)} {p : Nat} {d : Nat × Nat} (h : Fits v) (hd : d.1 < 4294967296 ∧ d.2 < 18446744073709551616) : Fits (V.put v p d) := fun x hx => by
  rcases V.mem_put.1 hx with rfl | hx
  · exact hd
  · exact h x hx
theorem fits_ins {v : List (Nat × Nat)} {d : Nat × Nat} (h : Fits v) (hd : d.1 < 4294967296 ∧ d.2 < 18446744073709551616) : Fits (V.ins v d) := by
  unfold V.ins; split
  · exact h
  · exact fits_put h hd
end Go.Proofs.Ytbahfpcfjhifbaa
