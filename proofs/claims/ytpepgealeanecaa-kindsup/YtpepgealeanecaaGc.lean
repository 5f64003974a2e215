/- Values taken apart, in memory. -/
import Derived.Test.YtpepgealeanecaaGl
import Derived.Test.YtpepgealeanecaaGa
namespace Go.Proofs.Ytpepgealeanecaa
open Go.RowKit Go.Lib
/-- a tally's cells -/
def taC (l : List Nat) : List Value := l.map fun (n : Nat) => Value.int .u16 (n : Int)
/-- the cells of what a value is made of -/
def tyC (k : Nat) (on : Bool) (fa : Option Addr) (n fc : Nat) (ta : List Nat) (ra : Option Addr) (m rc : Nat) : Array Value :=
  (.int .u8 (k : Int) :: .bool on :: .slice fa n fc :: (taC ta ++ [.slice ra m rc])).toArray
def tyV (k : Nat) (on : Bool) (fa : Option Addr) (n fc : Nat) (ta : List Nat) (ra : Option Addr) (m rc : Nat) : Value := .agg (tyC k on fa n fc ta ra m rc)
/-- the tally of nobody -/
def ta0 : List Nat := [0, 0, 0, 0, 0, 0, 0, 0, 0, 0]
theorem taC_len (l : List Nat) : (taC l).length = l.length := by simp [taC]
theorem taC_one (l : List Nat) : ∀ v ∈ taC l, v.oneCell' = true := by
  intro v hv
  obtain ⟨n, _, rfl⟩ := List.mem_map.1 hv
  rfl
theorem tyC_size (k : Nat) (on : Bool) (fa : Option Addr) (n fc : Nat) {ta : List Nat} (h : ta.length = 10) (ra : Option Addr) (m rc : Nat) : (tyC k on fa n fc ta ra m rc).size = 14 := by
  simp [tyC, taC_len, h]
theorem tyC_one (k : Nat) (on : Bool) (fa : Option Addr) (n fc : Nat) (ta : List Nat) (ra : Option Addr) (m rc : Nat) : (tyC k on fa n fc ta ra m rc).all (·.oneCell') = true := by
  rw [Array.all_eq_true']
  intro v hv
  simp only [tyC, List.mem_toArray, List.mem_cons, List.mem_append, List.not_mem_nil, or_false] at hv
  rcases hv with rfl | rfl | rfl | hv | rfl
  · rfl
  · rfl
  · rfl
  · exact taC_one ta v hv
  · rfl
theorem tyZero : ((Try.prog.info? 77).bind (·.zero)).map (·.cells) = some (tyC 0 false none 0 0 ta0 none 0 0) := by kernel_rfl
theorem tyInfo : (Try.prog.info? 77).map (·.size) = some 14 := by kernel_rfl
theorem taZero : ((Try.prog.info? 75).bind (·.zero)).map (·.cells) = some (taC ta0).toArray := by kernel_rfl
theorem taInfo : (Try.prog.info? 75).map (·.size) = some 10 := by kernel_rfl
/-- a variable that holds what a value is made of -/
structure Bt (w : World) (N : Nat) (k : Nat) (on : Bool) (fa : Option Addr) (n fc : Nat) (ta : List Nat) (ra : Option Addr) (m rc : Nat) : Prop where
  row : w.heap[N]? = some (.cells (tyC k on fa n fc ta ra m rc) 77 (0, 0))
  len : ta.length = 10
section
variable {w w' : World} {N k : Nat} {on : Bool} {fa : Option Addr} {n fc : Nat} {ta : List Nat} {ra : Option Addr} {m rc : Nat}
theorem Bt.lt (h : Bt w N k on fa n fc ta ra m rc) : N < w.heap.size := (Array.getElem?_eq_some_iff.1 h.row).1
theorem Bt.same (h : Bt w N k on fa n fc ta ra m rc) (hb : w'.heap[N]? = w.heap[N]?) : Bt w' N k on fa n fc ta ra m rc := ⟨hb.trans h.row, h.len⟩
theorem Bt.below (h : Bt w N k on fa n fc ta ra m rc) (hb : Below w.heap.size w w') : Bt w' N k on fa n fc ta ra m rc := h.same (hb.block N h.lt)
theorem Bt.c0 (h : Bt w N k on fa n fc ta ra m rc) : w.cell? ⟨N, 0, none⟩ = some (.int .u8 (k : Int)) := by simp [World.cell?, h.row, tyC]
theorem Bt.c1 (h : Bt w N k on fa n fc ta ra m rc) : w.cell? ⟨N, 1, none⟩ = some (.bool on) := by simp [World.cell?, h.row, tyC]
theorem Bt.c2 (h : Bt w N k on fa n fc ta ra m rc) : w.cell? ⟨N, 2, none⟩ = some (.slice fa n fc) := by simp [World.cell?, h.row, tyC]
theorem Bt.c13 (h : Bt w N k on fa n fc ta ra m rc) : w.cell? ⟨N, 13, none⟩ = some (.slice ra m rc) := by
  simp only [World.cell?, h.row, tyC, List.getElem?_toArray]
  rw [List.getElem?_cons_succ, List.getElem?_cons_succ, List.getElem?_cons_succ, List.getElem?_append_right (by rw [taC_len, h.len]; decide), taC_len, h.len]
  rfl
theorem Bt.rng (h : Bt w N k on fa n fc ta ra m rc) : w.rangeAt N 3 (taC ta) := fun j v hv => by
  simp only [World.cell?, h.row, tyC, List.getElem?_toArray]
  rw [show 3 + j = j + 1 + 1 + 1 by omega, List.getElem?_cons_succ, List.getElem?_cons_succ, List.getElem?_cons_succ, List.getElem?_append_left (List.getElem?_eq_some_iff.1 hv).1]
  exact hv
theorem Bt.free (h : Bt w N k on fa n fc ta ra m rc) (i : Nat) : w.frozen? ⟨N, i, none⟩ = false := by simp [World.frozen?, h.row]
theorem Bt.there (h : Bt w N k on fa n fc ta ra m rc) {o j : Nat} (ho : o + j ≤ 14) : w.there N o j := fun i hi => by
  refine ⟨?_, h.free _⟩
  have := tyC_size k on fa n fc h.len ra m rc
  simp only [World.cell?, h.row]
  rw [Array.getElem?_eq_getElem (by omega)]
  rfl
theorem Bt.set1 (h : Bt w N k on fa n fc ta ra m rc) (b : Bool) : Bt (w.setCell ⟨N, 1, none⟩ (.bool b)) N k b fa n fc ta ra m rc := by
  refine ⟨?_, h.len⟩
  have := heapCell_same h.row 1 (.bool b)
  rw [this]
  congr 1
theorem Bt.set2 (h : Bt w N k on fa n fc ta ra m rc) (fa' : Option Addr) (n' fc' : Nat) : Bt (w.setCell ⟨N, 2, none⟩ (.slice fa' n' fc')) N k on fa' n' fc' ta ra m rc := by
  refine ⟨?_, h.len⟩
  have := heapCell_same h.row 2 (.slice fa' n' fc')
  rw [this]
  congr 1
theorem Bt.set13 (h : Bt w N k on fa n fc ta ra m rc) (ra' : Option Addr) (m' rc' : Nat) : Bt (w.setCell ⟨N, 13, none⟩ (.slice ra' m' rc')) N k on fa n fc ta ra' m' rc' := by
  refine ⟨?_, h.len⟩
  have := heapCell_same h.row 13 (.slice ra' m' rc')
  rw [this]
  congr 2
  obtain ⟨a0, a1, a2, a3, a4, a5, a6, a7, a8, a9, rfl⟩ : ∃ a0 a1 a2 a3 a4 a5 a6 a7 a8 a9, ta = [a0, a1, a2, a3, a4, a5, a6, a7, a8, a9] := by
    have hl := h.len
    match ta, hl with
    | [a0, a1, a2, a3, a4, a5, a6, a7, a8, a9], _ => exact ⟨a0, a1, a2, a3, a4, a5, a6, a7, a8, a9, rfl⟩
  rfl
end
section
variable {ops : Array Oper} {rest : List Oper} {o : Oper} {a : Act} {w : World} {Q : Exit → Act → World → Prop}
theorem wpList_alloc_ty (hg : o.guard = none) (ho : o.op = .alloc 77) (d : Option Tmp) (hd : o.dst = d) (N : Nat) (hN : N = w.heap.size)
    (h : ∀ w', Hid (Bt w' N 0 false none 0 0 ta0 none 0 0) → Hid (Below N w w') → Hid (w'.heap.size = N + 1) → wpList Try.prog ops Q rest (a.put d (.pointer (some ⟨N, 0, none⟩))) w') : wpList Try.prog ops Q (o :: rest) a w :=
  wpList_alloc_row hg _ ho d hd N hN.symm _ tyZero fun w' h1 h2 h3 => h w' ⟨h1, rfl⟩ h2 h3
theorem wpList_box_ty (hg : o.guard = none) (x : Operand) (ho : o.op = .box 77 x) (d : Option Tmp) (hd : o.dst = d) (N : Nat) (hN : N = w.heap.size) (k : Nat) (on : Bool) (fa : Option Addr) (n fc : Nat) (ta : List Nat) (ra : Option Addr) (m rc : Nat) (hx : a.eval x = tyV k on fa n fc ta ra m rc) (hl : ta.length = 10)
    (h : ∀ w', Hid (Bt w' N k on fa n fc ta ra m rc) → Hid (Below N w w') → Hid (w'.heap.size = N + 1) → wpList Try.prog ops Q rest (a.put d (.pointer (some ⟨N, 0, none⟩))) w') : wpList Try.prog ops Q (o :: rest) a w :=
  wpList_box_row hg _ x ho d hd N hN.symm _ (by rw [hx]; rfl) fun w' h1 h2 h3 => h w' ⟨h1, hl⟩ h2 h3
theorem wpList_store_ty (hgd : o.guard = none) (x y : Operand) (ho : o.op = .store 77 x y) (g : Nat) (k : Nat) (on : Bool) (fa : Option Addr) (n fc : Nat) (ta : List Nat) (ra : Option Addr) (m rc : Nat) (hx : a.eval x = .pointer (some ⟨g, 0, none⟩)) (hy : a.eval y = tyV k on fa n fc ta ra m rc) (hl : ta.length = 10)
    {k0 : Nat} {on0 : Bool} {fa0 : Option Addr} {n0 fc0 : Nat} {ta0 : List Nat} {ra0 : Option Addr} {m0 rc0 : Nat} (hb : Bt w g k0 on0 fa0 n0 fc0 ta0 ra0 m0 rc0)
    (h : ∀ w', Hid (Bt w' g k on fa n fc ta ra m rc) → Hid (∀ B u, B ≤ g → Below B u w → Below B u w') → Hid (w'.heap.size = w.heap.size) → Hid (∀ i, i ≠ g → w'.heap[i]? = w.heap[i]?) → wpList Try.prog ops Q rest (a.put o.dst undef) w') : wpList Try.prog ops Q (o :: rest) a w :=
  wpList_store_hid hgd _ x y ho g (tyC k on fa n fc ta ra m rc) hx hy _ _ hb.row (by rw [tyC_size k on fa n fc hl ra m rc]; exact tyInfo) (by rw [tyC_size _ _ _ _ _ hl, tyC_size _ _ _ _ _ hb.len]) (tyC_one _ _ _ _ _ _ _ _ _) fun w' h1 h2 =>
    h w' ⟨h1, hl⟩ (fun B u hB hu => by rw [unhide h2]; exact belowRow hu hB _) (hide (by rw [unhide h2]; simp)) (fun i hi => by rw [unhide h2]; exact heapRow_other _ _ _ _ hi)
theorem wpList_load_ty (hgd : o.guard = none) (x : Operand) (ho : o.op = .load 77 x) (d : Option Tmp) (hd : o.dst = d) (g : Nat) (hx : a.eval x = .pointer (some ⟨g, 0, none⟩)) {k : Nat} {on : Bool} {fa : Option Addr} {n fc : Nat} {ta : List Nat} {ra : Option Addr} {m rc : Nat} (hb : Bt w g k on fa n fc ta ra m rc)
    (h : wpList Try.prog ops Q rest (a.put d (tyV k on fa n fc ta ra m rc)) w) : wpList Try.prog ops Q (o :: rest) a w := by
  subst hd
  exact wpList_load_row hgd _ x ho g hx _ _ _ _ hb.row Try.underlying77 rfl (by rw [tyC_size k on fa n fc hb.len ra m rc]; exact tyInfo) h
theorem wpList_load_ta (hgd : o.guard = none) (x : Operand) (ho : o.op = .load 75 x) (d : Option Tmp) (hd : o.dst = d) (b q : Nat) (hx : a.eval x = .pointer (some ⟨b, q, none⟩)) (ta : List Nat) (hr : w.rangeAt b q (taC ta)) (hl : ta.length = 10)
    (h : wpList Try.prog ops Q rest (a.put d (.agg (taC ta).toArray)) w) : wpList Try.prog ops Q (o :: rest) a w := by
  subst hd
  exact wpList_load_mid hgd _ x ho b q hx _ _ hr Try.underlying75 rfl (by rw [taC_len, hl]; exact taInfo) h
end
theorem results_ty_tmp {fn : Func} {p u : Tmp} (h : fn.results = #[.cell p 77, .tmp u]) (tmps : Array Value) (w : World) (g : Nat) (k : Nat) (on : Bool) (fa : Option Addr) (n fc : Nat) (ta : List Nat) (ra : Option Addr) (m rc : Nat)
    (hp : tmps.getD p undef = .pointer (some ⟨g, 0, none⟩)) (hb : Bt w g k on fa n fc ta ra m rc) : (results fn tmps).run Try.prog w = .ok (.tuple #[tyV k on fa n fc ta ra m rc, tmps.getD u undef]) w := by
  rw [results_cell_tmp h, hp]
  have hl := run_loadVar_row w g 77 77 (tyC k on fa n fc ta ra m rc) (0, 0) _ hb.row Try.underlying77 rfl (by rw [tyC_size k on fa n fc hb.len ra m rc]; exact tyInfo)
  simp [asAddr, hl, tyV]
theorem results_ty {fn : Func} {p : Tmp} (h : fn.results = #[.cell p 77]) (tmps : Array Value) (w : World) (g : Nat) (k : Nat) (on : Bool) (fa : Option Addr) (n fc : Nat) (ta : List Nat) (ra : Option Addr) (m rc : Nat)
    (hp : tmps.getD p undef = .pointer (some ⟨g, 0, none⟩)) (hb : Bt w g k on fa n fc ta ra m rc) : (results fn tmps).run Try.prog w = .ok (tyV k on fa n fc ta ra m rc) w := by
  exact results_cell_row h tmps w g _ _ _ _ hp hb.row Try.underlying77 rfl (by rw [tyC_size k on fa n fc hb.len ra m rc]; exact tyInfo)
/-- floats in memory -/
def flC (l : List Nat) : List Value := l.map fun (b : Nat) => Value.float .f64 b
def ruC (l : List Nat) : List Value := l.map fun (n : Nat) => Value.int .i32 (n : Int)
theorem flC_len (l : List Nat) : (flC l).length = l.length := by simp [flC]
theorem ruC_len (l : List Nat) : (ruC l).length = l.length := by simp [ruC]
theorem flC_get {l : List Nat} {i : Nat} (hi : i < l.length) : (flC l)[i]? = some (.float .f64 l[i]) := by simp [flC, hi]
theorem ixF (g o n c i : Nat) (hi : i < n) (W : World) : (Instr.indexAt 28 (.slice (some ⟨g, o, none⟩) n c) (.int .i64 (i : Int))).run Try.prog W = .ok (.pointer (some ⟨g, o + i, none⟩)) W := by
  have he : Try.prog.elem 28 = 36 := by kernel_rfl
  rw [run_indexAt_slice W 28 _ _ _ _ _ (by rw [he]; kernel_rfl), if_pos ⟨by omega, by omega⟩, he, sizeN (n := 1) (by kernel_rfl)]
  simp only [Result.andThen_ok, Int.toNat_natCast, Addr.add_mid, Nat.mul_one]
/-- what a value is made of -/
structure Ty where
  k : Nat
  on : Bool
  fl : List Nat
  ta : List Nat
  ru : List Nat
/-- what a value is made of, in memory, behind its slices -/
structure TAt (w : World) (t : Ty) (fa : Option Addr) (fc : Nat) (ra : Option Addr) (rc : Nat) : Prop where
  kind : t.k < 256
  fl : Lies w fa (flC t.fl)
  ru : Lies w ra (ruC t.ru)
  fb : ∀ b ∈ t.fl, b < 18446744073709551616
  rb : ∀ b ∈ t.ru, b < 1114112
  tl : t.ta.length = 10
  tb : ∀ x ∈ t.ta, x < 65536
  fn : t.fl.length ≤ fc
  rn : t.ru.length ≤ rc
  f0 : fa = none → fc = 0
  r0 : ra = none → rc = 0
  fm : t.fl.length ≤ 1099511627776
  rm : t.ru.length ≤ 1099511627776
theorem TAt.below {w w' : World} {t : Ty} {fa ra : Option Addr} {fc rc : Nat} (h : TAt w t fa fc ra rc) (hb : Below w.heap.size w w') : TAt w' t fa fc ra rc :=
  ⟨h.kind, h.fl.below hb, h.ru.below hb, h.fb, h.rb, h.tl, h.tb, h.fn, h.rn, h.f0, h.r0, h.fm, h.rm⟩
end Go.Proofs.Ytpepgealeanecaa
