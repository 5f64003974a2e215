/- Laws on rows of cells. Of no program but for names. -/
import Derived.Test.YtppmpomfihalfaaNc
import Derived.Laws.Tables
namespace Go.Proofs.Ytppmpomfihalfaa
open Go.RowKit Go.Lib
theorem zero_run {P : Program} {t : TypeId} {cells : Array Value} (hz : ((P.info? t).bind (·.zero)).map (·.cells) = some cells) (w : World) : ∃ z, (zeroValue t).run P w = .ok z w ∧ z.cells = cells := by
  cases hq : P.info? t with
  | none => simp [hq] at hz
  | some i =>
    cases hz' : i.zero with
    | none => simp [hq, hz'] at hz
    | some z => exact ⟨z, by simp [zeroValue, typeInfo, hq, hz'], by simpa [hq, hz'] using hz⟩
/-- a new variable -/
theorem wpList_alloc_row {P : Program} {ops : Array Oper} {rest : List Oper} {o : Oper} {a : Act} {w : World} {Q : Exit → Act → World → Prop} (hg : o.guard = none) (t : TypeId) (ho : o.op = .alloc t) (d : Option Tmp) (hd : o.dst = d)
    (N : Nat) (hN : w.heap.size = N) (cells : Array Value) (hz : ((P.info? t).bind (·.zero)).map (·.cells) = some cells)
    (h : ∀ w', Hid (w'.heap[N]? = some (.cells cells t (0, 0))) → Hid (Below N w w') → Hid (w'.heap.size = N + 1) → wpList P ops Q rest (a.put d (.pointer (some ⟨N, 0, none⟩))) w') : wpList P ops Q (o :: rest) a w := by
  subst hd hN
  obtain ⟨z, h1, h2⟩ := zero_run hz w
  refine wpList_plain hg fun K hK => ?_
  unfold Oper.wp execOp
  simp only [ho, Sem.run_bind, Instr.alloc, h1, newVar, newRow, run_newObj_alloc, Sem.run_pure, Result.andThen_ok, h2]
  exact hK _ _ (h _ (heap_alloc_new _ _) ((Below.refl _ _).alloc (Nat.le_refl _) _) (hide (by simp)))
theorem heapRow_same {w : World} {g : Nat} {cs : Array Value} {t : TypeId} {fr : Nat × Nat} (h : w.heap[g]? = some (.cells cs t fr)) (cs' : Array Value) : (w.setRow g cs').heap[g]? = some (.cells cs' t fr) := by
  simp [World.setRow, Array.getElem?_modify, h]
theorem heapRow_other (w : World) (g k : Nat) (cs' : Array Value) (h : k ≠ g) : (w.setRow g cs').heap[k]? = w.heap[k]? := by
  simp only [World.setRow, Array.getElem?_modify]
  rw [if_neg (by omega)]
theorem belowRow {B : Nat} {a w : World} (h : Below B a w) {g : Nat} (hg : B ≤ g) (cs' : Array Value) : Below B a (w.setRow g cs') :=
  ⟨h.os, h.tape, h.output, by simpa [World.setRow] using h.size, fun k hk => (heapRow_other w g k cs' (by omega)).trans (h.block k hk)⟩
theorem wpList_store_hid {P : Program} {ops : Array Oper} {rest : List Oper} {o : Oper} {a : Act} {w : World} {Q : Exit → Act → World → Prop} (hgd : o.guard = none) (ty : TypeId) (x y : Operand) (ho : o.op = .store ty x y)
    (g : Nat) (cells : Array Value) (hx : a.eval x = .pointer (some ⟨g, 0, none⟩)) (hy : a.eval y = .agg cells)
    (t : TypeId) (old : Array Value) (hg : w.heap[g]? = some (.cells old t (0, 0))) (hi : (P.info? ty).map (·.size) = some cells.size)
    (hold : old.size = cells.size) (h1 : cells.all (·.oneCell') = true)
    (h : ∀ w', Hid (w'.heap[g]? = some (.cells cells t (0, 0))) → Hid (w' = w.setRow g cells) → wpList P ops Q rest (a.put o.dst undef) w') : wpList P ops Q (o :: rest) a w :=
  wpList_store_row hgd ty x y ho g cells hx hy t old hg hi hold h1 (h _ (heapRow_same hg _) rfl)
theorem zeroCell : ((Try.prog.info? 66).bind (·.zero)).map (·.cells) = some #[.string ⟨#[]⟩, .string ⟨#[]⟩] := by kernel_rfl
theorem cellInfo : (Try.prog.info? 66).map (·.size) = some 2 := by kernel_rfl
theorem cell_one (a b : ByteArray) : (#[.string a, .string b] : Array Value).all (·.oneCell') = true := by
  rw [Array.all_eq_true']
  intro v hv
  simp only [List.mem_toArray, List.mem_cons, List.not_mem_nil, or_false] at hv
  rcases hv with rfl | rfl <;> rfl
theorem zeroNode : ((Try.prog.info? 26).bind (·.zero)).map (·.cells) = some #[.bool false, .slice none 0 0, .slice none 0 0, .slice none 0 0] := by kernel_rfl
theorem nodeInfo : (Try.prog.info? 26).map (·.size) = some 4 := by kernel_rfl
theorem node_one (lf : Bool) (a b c : Option Addr) (x y z i j k : Nat) : (#[.bool lf, .slice a x i, .slice b y j, .slice c z k] : Array Value).all (·.oneCell') = true := by
  rw [Array.all_eq_true']
  intro v hv
  simp only [List.mem_toArray, List.mem_cons, List.not_mem_nil, or_false] at hv
  rcases hv with rfl | rfl | rfl | rfl <;> rfl
theorem box2 {W : World} {N : Nat} {c0 c1 : Value} {t : TypeId} (h : W.heap[N]? = some (.cells #[c0, c1] t (0, 0))) : W.cell? ⟨N, 0, none⟩ = some c0 ∧ W.cell? ⟨N, 1, none⟩ = some c1 := by
  refine ⟨?_, ?_⟩ <;> simp [World.cell?, h]
theorem wpList_alloc_cell {ops : Array Oper} {rest : List Oper} {o : Oper} {a : Act} {w : World} {Q : Exit → Act → World → Prop} (hg : o.guard = none) (ho : o.op = .alloc 66) (d : Option Tmp) (hd : o.dst = d) (N : Nat) (hN : N = w.heap.size)
    (h : ∀ w', Hid (w'.heap[N]? = some (.cells #[.string ⟨#[]⟩, .string ⟨#[]⟩] 66 (0, 0))) → Hid (Below N w w') → Hid (w'.heap.size = N + 1) → wpList Try.prog ops Q rest (a.put d (.pointer (some ⟨N, 0, none⟩))) w') : wpList Try.prog ops Q (o :: rest) a w :=
  wpList_alloc_row hg _ ho d hd N hN.symm _ zeroCell h
theorem wpList_store_cell {ops : Array Oper} {rest : List Oper} {o : Oper} {a : Act} {w : World} {Q : Exit → Act → World → Prop} (hgd : o.guard = none) (x y : Operand) (ho : o.op = .store 66 x y) (g : Nat) (q p : ByteArray) (hx : a.eval x = .pointer (some ⟨g, 0, none⟩)) (hy : a.eval y = .agg #[.string q, .string p])
    {q0 p0 : ByteArray} (hg : w.heap[g]? = some (.cells #[.string q0, .string p0] 66 (0, 0)))
    (h : ∀ w', Hid (w'.heap[g]? = some (.cells #[.string q, .string p] 66 (0, 0))) → Hid (w' = w.setRow g #[.string q, .string p]) → wpList Try.prog ops Q rest (a.put o.dst undef) w') : wpList Try.prog ops Q (o :: rest) a w :=
  wpList_store_hid hgd _ x y ho g _ hx hy _ _ hg cellInfo rfl (cell_one _ _) h
theorem wpList_alloc_node {ops : Array Oper} {rest : List Oper} {o : Oper} {a : Act} {w : World} {Q : Exit → Act → World → Prop} (hg : o.guard = none) (ho : o.op = .alloc 26) (d : Option Tmp) (hd : o.dst = d) (N : Nat) (hN : N = w.heap.size)
    (h : ∀ w', Hid (w'.heap[N]? = some (.cells #[.bool false, .slice none 0 0, .slice none 0 0, .slice none 0 0] 26 (0, 0))) → Hid (Below N w w') → Hid (w'.heap.size = N + 1) → wpList Try.prog ops Q rest (a.put d (.pointer (some ⟨N, 0, none⟩))) w') : wpList Try.prog ops Q (o :: rest) a w :=
  wpList_alloc_row hg _ ho d hd N hN.symm _ zeroNode h
theorem wpList_store_node {ops : Array Oper} {rest : List Oper} {o : Oper} {a : Act} {w : World} {Q : Exit → Act → World → Prop} (hgd : o.guard = none) (x y : Operand) (ho : o.op = .store 26 x y) (g : Nat) (lf : Bool) (ca : Option Addr) (cn cc : Nat) (ka : Option Addr) (kn kc : Nat) (ga : Option Addr) (gn gc : Nat) (hx : a.eval x = .pointer (some ⟨g, 0, none⟩)) (hy : a.eval y = .agg #[.bool lf, .slice ca cn cc, .slice ka kn kc, .slice ga gn gc])
    {c0 c1 c2 c3 : Value} (hg : w.heap[g]? = some (.cells #[c0, c1, c2, c3] 26 (0, 0)))
    (h : ∀ w', Hid (w'.heap[g]? = some (.cells #[.bool lf, .slice ca cn cc, .slice ka kn kc, .slice ga gn gc] 26 (0, 0))) → Hid (w' = w.setRow g #[.bool lf, .slice ca cn cc, .slice ka kn kc, .slice ga gn gc]) → wpList Try.prog ops Q rest (a.put o.dst undef) w') : wpList Try.prog ops Q (o :: rest) a w :=
  wpList_store_hid hgd _ x y ho g _ hx hy _ _ hg nodeInfo rfl (node_one _ _ _ _ _ _ _ _ _ _) h
theorem wpList_box_node {ops : Array Oper} {rest : List Oper} {o : Oper} {a : Act} {w : World} {Q : Exit → Act → World → Prop} (hg : o.guard = none) (x : Operand) (ho : o.op = .box 26 x) (d : Option Tmp) (hd : o.dst = d) (N : Nat) (hN : N = w.heap.size) (lf : Bool) (ca : Option Addr) (cn cc : Nat) (ka : Option Addr) (kn kc : Nat) (ga : Option Addr) (gn gc : Nat) (hx : a.eval x = .agg #[.bool lf, .slice ca cn cc, .slice ka kn kc, .slice ga gn gc])
    (h : ∀ w', Hid (w'.heap[N]? = some (.cells #[.bool lf, .slice ca cn cc, .slice ka kn kc, .slice ga gn gc] 26 (0, 0))) → Hid (Below N w w') → Hid (w'.heap.size = N + 1) → wpList Try.prog ops Q rest (a.put d (.pointer (some ⟨N, 0, none⟩))) w') : wpList Try.prog ops Q (o :: rest) a w :=
  wpList_box_row hg _ x ho d hd N hN.symm _ (by rw [hx]; rfl) h
end Go.Proofs.Ytppmpomfihalfaa
