/- Rows of records in memory, of any kind whose cells are known; laws of variables, calls and regions (stage 14 and on). -/
import Derived.Test.YtajbkgcgmkkpiaaXw
import Derived.Test.YtajbkgcgmkkpiaaLs
import Derived.Laws.AppendOwnNone
import Derived.Laws.Tables
import Derived.BigQuiet
namespace Go.Proofs.Ytajbkgcgmkkpiaa.S
open Go.RowKit Go.Lib
/-- cells that lie somewhere -/
def Lies (w : World) (ao : Option Addr) (xs : List Value) : Prop := 0 < xs.length → ∃ g o, ao = some ⟨g, o, none⟩ ∧ w.rangeAt g o xs
theorem Lies.below {w w' : World} {ao : Option Addr} {xs : List Value} (h : Lies w ao xs) (hb : Below w.heap.size w w') : Lies w' ao xs := fun h0 => by
  obtain ⟨g, o, h1, h2⟩ := h h0
  exact ⟨g, o, h1, fun j v hv => (hb.cell (p := ⟨g, o + j, none⟩) (World.block_lt_of_cell? w _ (h2 j v hv))).trans (h2 j v hv)⟩
theorem Lies.nil (w : World) (ao : Option Addr) : Lies w ao [] := fun h => absurd h (by simp)
theorem Lies.pre {w : World} {ao : Option Addr} {xs ys : List Value} (h : Lies w ao (xs ++ ys)) : Lies w ao xs := fun h0 => by
  obtain ⟨g, o, e, hr⟩ := h (by rw [List.length_append]; omega)
  exact ⟨g, o, e, fun j v hv => hr j v (by rw [List.getElem?_append_left (List.getElem?_eq_some_iff.1 hv).1]; exact hv)⟩
theorem box_below {W u : World} {N : Nat} {o : Obj} (h : W.heap[N]? = some o) (hb : Below W.heap.size W u) : u.heap[N]? = some o := (hb.block N (Array.getElem?_eq_some_iff.1 h).1).trans h
theorem sizeN {P : Program} {t n : Nat} (h : (P.info? t).map (·.size) = some n) (W : World) : (Go.sizeOf t).run P W = .ok n W := by
  cases hq : P.info? t with
  | none => simp [hq] at h
  | some i => simp only [hq, Option.map_some, Option.some.injEq] at h; simp [Go.sizeOf, typeInfo, hq, h]
theorem zero_run {P : Program} {t : TypeId} {cells : Array Value} (hz : ((P.info? t).bind (·.zero)).map (·.cells) = some cells) (w : World) : ∃ z, (zeroValue t).run P w = .ok z w ∧ z.cells = cells := by
  cases hq : P.info? t with
  | none => simp [hq] at hz
  | some i =>
    cases hz' : i.zero with
    | none => simp [hq, hz'] at hz
    | some z => exact ⟨z, by simp [zeroValue, typeInfo, hq, hz'], by simpa [hq, hz'] using hz⟩
/-- a new variable -/
theorem wpList_alloc_row {P : Program} {ops : Array Oper} {rest : List Oper} {o : Oper} {a : Act} {w : World} {Q : Exit → Act → World → Prop} (hg : o.guard = none) (t : TypeId) (ho : o.op = .alloc t) (d : Option Tmp) (hd : o.dst = d)
    (N : Nat) (hN : w.heap.size = N) (cells : Array Value) (hz : ((P.info? t).bind (·.zero)).map (·.cells) = some cells)
    (h : ∀ w', Hid (w'.heap[N]? = some (.cells cells t (0, 0))) → Hid (Below N w w') → Hid (w'.heap.size = N + 1) → wpList P ops Q rest (a.put d (.pointer (some ⟨N, 0, none⟩))) w') : wpList P ops Q (o :: rest) a w := by
  subst hd hN
  obtain ⟨z, h1, h2⟩ := zero_run hz w
  refine wpList_plain hg fun K hK => ?_
  unfold Oper.wp execOp
  simp only [ho, Sem.run_bind, Instr.alloc, h1, newVar, newRow, run_newObj_alloc, Sem.run_pure, Result.andThen_ok, h2]
  exact hK _ _ (h _ (heap_alloc_new _ _) ((Below.refl _ _).alloc (Nat.le_refl _) _) (hide (by simp)))
theorem heapRow_same {w : World} {g : Nat} {cs : Array Value} {t : TypeId} {fr : Nat × Nat} (h : w.heap[g]? = some (.cells cs t fr)) (cs' : Array Value) : (w.setRow g cs').heap[g]? = some (.cells cs' t fr) := by
  simp [World.setRow, Array.getElem?_modify, h]
theorem heapRow_other (w : World) (g k : Nat) (cs' : Array Value) (h : k ≠ g) : (w.setRow g cs').heap[k]? = w.heap[k]? := by
  simp only [World.setRow, Array.getElem?_modify]
  rw [if_neg (by omega)]
theorem belowRow {B : Nat} {a w : World} (h : Below B a w) {g : Nat} (hg : B ≤ g) (cs' : Array Value) : Below B a (w.setRow g cs') :=
  ⟨h.os, h.tape, h.output, by simpa [World.setRow] using h.size, fun k hk => (heapRow_other w g k cs' (by omega)).trans (h.block k hk)⟩
theorem size_setRow (w : World) (g : Nat) (cs : Array Value) : (w.setRow g cs).heap.size = w.heap.size := by simp [World.setRow]
theorem wpList_store_hid {P : Program} {ops : Array Oper} {rest : List Oper} {o : Oper} {a : Act} {w : World} {Q : Exit → Act → World → Prop} (hgd : o.guard = none) (ty : TypeId) (x y : Operand) (ho : o.op = .store ty x y)
    (g : Nat) (cells : Array Value) (hx : a.eval x = .pointer (some ⟨g, 0, none⟩)) (hy : a.eval y = .agg cells)
    (t : TypeId) (old : Array Value) (hg : w.heap[g]? = some (.cells old t (0, 0))) (hi : (P.info? ty).map (·.size) = some cells.size)
    (hold : old.size = cells.size) (h1 : cells.all (·.oneCell') = true)
    (h : ∀ w', Hid (w'.heap[g]? = some (.cells cells t (0, 0))) → Hid (w' = w.setRow g cells) → wpList P ops Q rest (a.put o.dst undef) w') : wpList P ops Q (o :: rest) a w :=
  wpList_store_row hgd ty x y ho g cells hx hy t old hg hi hold h1 (h _ (heapRow_same hg _) rfl)
theorem cell_one {W : World} {N : Nat} {c : Value} {t : TypeId} (h : W.heap[N]? = some (.cells #[c] t (0, 0))) : W.cell? ⟨N, 0, none⟩ = some c := by simp [World.cell?, h]
theorem box2 {W : World} {N : Nat} {c0 c1 : Value} {t : TypeId} (h : W.heap[N]? = some (.cells #[c0, c1] t (0, 0))) : W.cell? ⟨N, 0, none⟩ = some c0 ∧ W.cell? ⟨N, 1, none⟩ = some c1 := by
  refine ⟨?_, ?_⟩ <;> simp [World.cell?, h]
theorem box3 {W : World} {N : Nat} {c0 c1 c2 : Value} {t : TypeId} (h : W.heap[N]? = some (.cells #[c0, c1, c2] t (0, 0))) : W.cell? ⟨N, 0, none⟩ = some c0 ∧ W.cell? ⟨N, 1, none⟩ = some c1 ∧ W.cell? ⟨N, 2, none⟩ = some c2 := by
  refine ⟨?_, ?_, ?_⟩ <;> simp [World.cell?, h]
theorem arr_cell {W : World} {N i : Nat} {cs : Array Value} {t : TypeId} {x : Value} (h : W.heap[N]? = some (.cells cs t (0, 0))) (hi : cs[i]? = some x) : W.cell? ⟨N, i, none⟩ = some x := by
  simp [World.cell?, h, hi]
theorem results_cell_tmp {P : Program} {fn : Func} {p q : Tmp} {ty : TypeId} (h : fn.results = #[.cell p ty, .tmp q]) (tmps : Array Value) (w : World) (g : Nat) (t : TypeId) (cs : Array Value) (fr : Nat × Nat) (d : TypeDesc)
    (hp : tmps.getD p undef = .pointer (some ⟨g, 0, none⟩)) (hg : w.heap[g]? = some (.cells cs t fr))
    (hu : P.underlying ty = some d) (hd : (match d with | .struct _ | .array _ _ => true | _ => false) = true) (hi : (P.info? ty).map (·.size) = some cs.size) :
    (results fn tmps).run P w = .ok (.tuple #[.agg cs, tmps.getD q undef]) w := by
  have hp' : tmps[p]?.getD undef = .pointer (some ⟨g, 0, none⟩) := by simpa using hp
  simp [results, h, hp', asAddr, run_loadVar_row w g t ty cs fr d hg hu hd hi]
theorem results_cell {P : Program} {fn : Func} {p : Tmp} {ty : TypeId} (h : fn.results = #[.cell p ty]) (tmps : Array Value) (w : World) (g : Nat) (t : TypeId) (cs : Array Value) (fr : Nat × Nat) (d : TypeDesc)
    (hp : tmps.getD p undef = .pointer (some ⟨g, 0, none⟩)) (hg : w.heap[g]? = some (.cells cs t fr))
    (hu : P.underlying ty = some d) (hd : (match d with | .struct _ | .array _ _ => true | _ => false) = true) (hi : (P.info? ty).map (·.size) = some cs.size) :
    (results fn tmps).run P w = .ok (.agg cs) w := by
  have hp' : tmps[p]?.getD undef = .pointer (some ⟨g, 0, none⟩) := by simpa using hp
  simp [results, h, hp', asAddr, run_loadVar_row w g t ty cs fr d hg hu hd hi]
theorem belowDrew {B : Nat} {a w : World} (h : Below B a w) : Below B a w.drew := ⟨h.os, h.tape, h.output, h.size, h.block⟩
theorem belowDrewN {B : Nat} {a w : World} (h : Below B a w) (n : Nat) : Below B a (w.drewN n) := ⟨h.os, h.tape, h.output, h.size, h.block⟩
theorem wp_val {P : Program} {o : Oper} {a : Act} {w : World} {K : Act → World → Prop} {Q : Exit → Act → World → Prop} (v : Value) (hrun : (execOp a.eval o).run P w = .ok (.value v) w) (d : Option Tmp) (hd : o.dst = d) (h : K (a.put d v) w) : o.wp P a w K Q := by
  subst hd
  unfold Oper.wp
  rw [hrun]
  exact h
/-- a call of a function of the program, within a drawn region -/
theorem wp_call_fn {P : Program} {o : Oper} {a : Act} {w : World} {K : Act → World → Prop} {Q : Exit → Act → World → Prop} (F : FuncId) (args : Array Operand) (ats : Array TypeId) (ho : o.op = .call { callee := .value (.func F), args := args, argTypes := ats })
    (xs : Array Value) (hx : args.map a.eval = xs) (hent : ∀ args (w : World), (callFunc F args).run P w = .ok (.enter F args) w) (d : Option Tmp) (hd : o.dst = d) (R : Value → World → Prop)
    (hc : Calls P F xs w fun e w' => ∃ v, e = .returned v ∧ R v w') (h : ∀ v w', R v w' → K (a.put d v) w') : o.wp P a w K Q := by
  subst hd
  have hrun : (execOp a.eval o).run P w = .ok (.enter F xs) w := by
    unfold execOp
    simp only [ho, resolve, Deferred.ofValue, Act.eval, invoke, Sem.run_bind, Sem.run_pure, Result.andThen_ok, hx]
    simpa using hent xs w
  unfold Oper.wp
  rw [hrun, Oper.upon_enter]
  refine hc.mono fun e w'' hh => ?_
  obtain ⟨v, rfl, hr⟩ := hh
  exact h v _ hr
/-- a call of a function value, within a drawn region -/
theorem wp_call_val {P : Program} {o : Oper} {a : Act} {w : World} {K : Act → World → Prop} {Q : Exit → Act → World → Prop} (f : Operand) (args : Array Operand) (ats : Array TypeId) (ho : o.op = .call { callee := .value f, args := args, argTypes := ats })
    (F : FuncId) (caps : Array Value) (hf : a.eval f = .func (.func F) #[] caps) (xs : Array Value) (hx : args.map a.eval = xs) (hent : ∀ args (w : World), (callFunc F args).run P w = .ok (.enter F args) w) (d : Option Tmp) (hd : o.dst = d) (R : Value → World → Prop)
    (hc : Calls P F (xs ++ caps) w fun e w' => ∃ v, e = .returned v ∧ R v w') (h : ∀ v w', R v w' → K (a.put d v) w') : o.wp P a w K Q := by
  subst hd
  have hrun : (execOp a.eval o).run P w = .ok (.enter F (xs ++ caps)) w := by
    unfold execOp
    simp only [ho, resolve, Deferred.ofValue, hf, invoke, Sem.run_bind, Sem.run_pure, Result.andThen_ok, hx]
    simpa using hent (xs ++ caps) w
  unfold Oper.wp
  rw [hrun, Oper.upon_enter]
  refine hc.mono fun e w'' hh => ?_
  obtain ⟨v, rfl, hr⟩ := hh
  exact h v _ hr
/-- the same in a plain region -/
theorem wpList_callv {P : Program} {ops : Array Oper} {rest : List Oper} {o : Oper} {a : Act} {w : World} {Q : Exit → Act → World → Prop} (hgd : o.guard = none) (f : Operand) (args : Array Operand) (ats : Array TypeId) (ho : o.op = .call { callee := .value f, args := args, argTypes := ats })
    (F : FuncId) (caps : Array Value) (hf : a.eval f = .func (.func F) #[] caps) (xs : Array Value) (hx : args.map a.eval = xs) (hent : ∀ args (w : World), (callFunc F args).run P w = .ok (.enter F args) w) (d : Option Tmp) (hd : o.dst = d) (R : Value → World → Prop)
    (hc : Calls P F (xs ++ caps) w fun e w' => ∃ v, e = .returned v ∧ R v w') (h : ∀ v w', R v w' → wpList P ops Q rest (a.put d v) w') : wpList P ops Q (o :: rest) a w :=
  wpList_plain hgd fun _ hK => wp_call_val f args ats ho F caps hf xs hx hent d hd R hc fun v w' hr => hK _ _ (h v w' hr)
theorem ent_lit {P : Program} (F : FuncId) (h : (P.funcs[F]?).map (fun fn => (fn.name == "runtime.NumGoroutine", fn.body.isNone)) = some (false, false)) (args : Array Value) (w : World) : (callFunc F args).run P w = .ok (.enter F args) w := by
  cases hq : P.funcs[F]? with
  | none => simp [hq] at h
  | some fn =>
    simp only [hq, Option.map_some, Option.some.injEq, Prod.mk.injEq] at h
    have h1 : fn.name ≠ "runtime.NumGoroutine" := by simpa using h.1
    cases hb : fn.body with
    | none => simp [hb] at h
    | some c => simp [callFunc, hq, h1, hb]
section
variable {w w' : World} {B e size : Nat} {v : Value} {n : Nat} {xs : List Value}
theorem own_keep (h : w.ownsRow B e size v n xs) (hk : ∀ g, v.ownBlock = some g → w'.heap[g]? = w.heap[g]?) : w'.ownsRow B e size v n xs := by
  refine ⟨h.1, ?_⟩
  rcases h.2 with hn | ⟨g, cap, cur, rfl, hb, hgg, rest⟩
  · exact .inl hn
  · exact .inr ⟨g, cap, cur, rfl, hb, (hk g rfl).trans hgg, rest⟩
theorem own_down {B' : Nat} (h : w.ownsRow B e size v n xs) (hb : B' ≤ B) : w.ownsRow B' e size v n xs := by
  refine ⟨h.1, ?_⟩
  rcases h.2 with hn | ⟨g, cap, cur, rfl, hb', rest⟩
  · exact .inl hn
  · exact .inr ⟨g, cap, cur, rfl, Nat.le_trans hb hb', rest⟩
theorem own_below (h : w.ownsRow B e size v n xs) (hb : Below w.heap.size w w') : w'.ownsRow B e size v n xs := own_keep h fun g hg => hb.block g (h.lt g hg).2
end
theorem own_lies {w : World} {B size : Nat} {e : TypeId} {ao : Option Addr} {n cp : Nat} {xs : List Value} (h : w.ownsRow B e size (.slice ao n cp) n xs) : Lies w ao xs ∧ n ≤ cp ∧ (ao = none → cp = 0) ∧ ∀ b o, ao = some ⟨b, o, none⟩ → B ≤ b ∧ b < w.heap.size := by
  have hlen := h.1
  rcases h.2 with ⟨hv, hn⟩ | ⟨g, cap, cur, hv, h1, h2, h3, h4, h5, h6⟩
  · cases hv
    exact ⟨fun h0 => by rw [hlen, hn] at h0; simp at h0, Nat.le_refl _, fun _ => rfl, fun b o e => by cases e⟩
  · cases hv
    refine ⟨fun h0 => ⟨g, 0, rfl, fun j x hx => ?_⟩, h3, (fun e => by cases e), (fun b o e => by cases e; exact ⟨h1, (Array.getElem?_eq_some_iff.1 h2).1⟩)⟩
    simp only [World.cell?, h2, Nat.zero_add]
    rw [← h6] at hx
    rw [List.getElem?_take] at hx
    split at hx
    · simpa using hx
    · cases hx
theorem own_addr {w : World} {B size : Nat} {e : TypeId} {ao : Option Addr} {n cp : Nat} {xs : List Value} (h : w.ownsRow B e size (.slice ao n cp) n xs) (ad : Addr) (ha : ao = some ad) : ∃ g, ad = ⟨g, 0, none⟩ := by
  rcases h.2 with ⟨hv, hn⟩ | ⟨g, cap, cur, hv, h1⟩
  · rw [ha] at hv; cases hv
  · rw [ha] at hv; cases hv; exact ⟨g, rfl⟩
/-- a kind of records: the types of a slice of them and of one of them, and the cells of one -/
structure Rec (P : Program) (α : Type) where
  st : TypeId
  et : TypeId
  n : Nat
  bts : Nat
  cs : α → List Value
  hn : 0 < n
  len : ∀ x, (cs x).length = n
  one : ∀ x, ∀ v ∈ cs x, v.oneCell' = true
  und : P.underlying st = some (.slice et)
  info : ∃ i z, P.info? et = some i ∧ i.zero = some z ∧ z.cells.size = n ∧ i.size = n ∧ i.bytes = bts
  pos : 0 < bts
section
variable {P : Program} {α : Type} (R : Rec P α)
def Rec.flat (l : List α) : List Value := l.flatMap R.cs
theorem Rec.elem : P.elem R.st = R.et := by simp [Program.elem, R.und]
theorem Rec.size : (P.info? R.et).map (·.size) = some R.n := by
  obtain ⟨i, z, h1, h2, h3, h4, h5⟩ := R.info
  simp [h1, h4]
theorem Rec.flat_len (l : List α) : (R.flat l).length = l.length * R.n := by
  induction l with
  | nil => simp [Rec.flat]
  | cons c l ih =>
    simp only [Rec.flat, List.flatMap_cons, List.length_append, R.len, List.length_cons, Nat.succ_mul] at ih ⊢
    omega
theorem Rec.flat_app (a b : List α) : R.flat (a ++ b) = R.flat a ++ R.flat b := by simp [Rec.flat]
theorem Rec.flat_one (l : List α) : ∀ v ∈ R.flat l, v.oneCell' = true := by
  intro v hv
  obtain ⟨d, _, h⟩ := List.mem_flatMap.1 hv
  exact R.one d v h
theorem Rec.flat_get : ∀ (l : List α) (i : Nat) (hi : i < l.length) (j : Nat), j < R.n → (R.flat l)[i * R.n + j]? = (R.cs l[i])[j]?
  | [], _, hi, _, _ => by simp at hi
  | c :: l, 0, _, j, hj => by
    simp only [Rec.flat, List.flatMap_cons, Nat.zero_mul, Nat.zero_add, List.getElem_cons_zero]
    rw [List.getElem?_append_left (by rw [R.len]; exact hj)]
  | c :: l, i + 1, hi, j, hj => by
    have := Rec.flat_get l i (by simpa using hi) j hj
    have e : R.flat (c :: l) = R.cs c ++ R.flat l := rfl
    rw [e, List.getElem?_append_right (by rw [R.len, Nat.succ_mul]; omega), R.len, show (i + 1) * R.n + j - R.n = i * R.n + j by rw [Nat.succ_mul]; omega]
    simpa using this
theorem Rec.ix (g o n c i : Nat) (hi : i < n) (W : World) : (Instr.indexAt R.st (.slice (some ⟨g, o, none⟩) n c) (.int .i64 (i : Int))).run P W = .ok (.pointer (some ⟨g, o + i * R.n, none⟩)) W := by
  rw [run_indexAt_slice W R.st _ _ _ _ _ (by rw [R.elem]; exact R.und), if_pos ⟨by omega, by omega⟩, R.elem, sizeN R.size]
  simp only [Result.andThen_ok, Int.toNat_natCast, Addr.add_mid]
/-- a list behind a slice -/
structure Rec.At (w : World) (l : List α) (ao : Option Addr) (c : Nat) : Prop where
  lies : Lies w ao (R.flat l)
  cap : l.length ≤ c
  nil : ao = none → c = 0
  many : l.length ≤ 4398046511000
variable {R}
theorem Rec.At.below {w w' : World} {l : List α} {ao : Option Addr} {c : Nat} (h : R.At w l ao c) (hb : Below w.heap.size w w') : R.At w' l ao c := ⟨h.lies.below hb, h.cap, h.nil, h.many⟩
theorem Rec.At.none (w : World) : R.At w [] .none 0 := ⟨Lies.nil _ _, Nat.le_refl _, fun _ => rfl, Nat.zero_le _⟩
theorem Rec.At.get {w : World} {l : List α} {ao : Option Addr} {c : Nat} (h : R.At w l ao c) {i : Nat} (hi : i < l.length) : ∃ g o, ao = some ⟨g, o, .none⟩ ∧ ∀ j v, (R.cs l[i])[j]? = some v → w.cell? ⟨g, o + i * R.n + j, .none⟩ = some v := by
  obtain ⟨g, o, h1, h2⟩ := h.lies (by rw [R.flat_len]; exact Nat.mul_pos (by omega) R.hn)
  refine ⟨g, o, h1, fun j v hv => ?_⟩
  have hj : j < R.n := by have := (List.getElem?_eq_some_iff.1 hv).1; rwa [R.len] at this
  rw [Nat.add_assoc]
  exact h2 _ _ ((R.flat_get l i hi j hj).trans hv)
variable (R)
/-- a list of one's own -/
def Rec.Own (w : World) (B : Nat) (l : List α) (ao : Option Addr) (c : Nat) : Prop := w.ownsRow B R.et R.n (.slice ao l.length c) l.length (R.flat l)
variable {R}
theorem Rec.Own.at {w : World} {B : Nat} {l : List α} {ao : Option Addr} {c : Nat} (h : R.Own w B l ao c) (hm : l.length ≤ 4398046511000) : R.At w l ao c := ⟨(own_lies h).1, (own_lies h).2.1, (own_lies h).2.2.1, hm⟩
theorem Rec.Own.below {w w' : World} {B : Nat} {l : List α} {ao : Option Addr} {c : Nat} (h : R.Own w B l ao c) (hb : Below w.heap.size w w') : R.Own w' B l ao c := own_below h hb
theorem Rec.Own.none (w : World) (B : Nat) : R.Own w B [] .none 0 := ⟨by simp [Rec.flat], .inl ⟨rfl, rfl⟩⟩
theorem Rec.Own.down {w : World} {B B' : Nat} {l : List α} {ao : Option Addr} {c : Nat} (h : R.Own w B l ao c) (hb : B' ≤ B) : R.Own w B' l ao c := own_down h hb
variable (R)
/-- append of a list onto a list of one's own -/
theorem Rec.run_put (w : World) (ty : TypeId) (B : Nat) (l m : List α) (ao bo : Option Addr) (c d : Nat) (ho : R.Own w B l ao c) (hm : R.At w m bo d) (hl : (l.length + m.length) * R.bts ≤ 140737488355328) (hB : B ≤ w.heap.size) :
    ∃ ao' c' w', (Builtin.append_ #[R.st, R.st] ty #[.slice ao l.length c, .slice bo m.length d]).run P w = .ok (.slice ao' (l ++ m).length c') w' ∧ R.Own w' B (l ++ m) ao' c' ∧ w.grownBy w' (Value.slice ao l.length c).ownBlock ∧ (∀ g o, ao' = some ⟨g, o, none⟩ → (∃ o', ao = some ⟨g, o', none⟩) ∨ w.heap.size ≤ g) := by
  obtain ⟨i, z, hi, hz, hzs, hs, hby⟩ := R.info
  cases bo with
  | none =>
    obtain rfl := hm.nil rfl
    obtain rfl : m = [] := List.eq_nil_of_length_eq_zero (by have := hm.cap; omega)
    rw [List.append_nil]
    exact ⟨ao, c, w, run_append_owned_none (P := P) (w := w) B R.st ty R.et i R.n R.und hi _ _ _ ho, ho, World.grownBy.refl _ _, fun g o h => .inl ⟨o, h⟩⟩
  | some ad =>
    have hle : l.length + m.length ≤ 140737488355328 := Nat.le_trans (Nat.le_mul_of_pos_right _ R.pos) hl
    obtain ⟨v', w', hr, h2, h3, h4⟩ := W.run_append_own' (P := P) w B R.st ty R.et i z R.n R.bts R.und hi hz hs hby hzs R.hn (.slice ao l.length c) l.length (R.flat l) ho ad m.length d (R.flat m) (R.flat_len m) (fun j u hu => by
      obtain ⟨g, o, he, hr⟩ := hm.lies (by have := (List.getElem?_eq_some_iff.1 hu).1; omega)
      cases he
      rw [Addr.add_mid]
      exact hr j u hu) (R.flat_one m) (by unfold maxLen; omega) hl hB
    obtain ⟨ao', c', rfl⟩ := W.owns_shape h2
    rw [← List.length_append, ← R.flat_app] at h2
    rw [← List.length_append] at hr
    refine ⟨ao', c', w', hr, h2, h3, fun g o hg => ?_⟩
    subst hg
    rcases h4 with h4 | ⟨g', h4, h5⟩
    · cases ao with
      | none => cases h4
      | some ad =>
        obtain ⟨g1, o1, i1⟩ := ad
        rcases ho.2 with ⟨hv, _⟩ | ⟨g2, cap2, cur2, hv, _⟩
        · simp at hv
        · simp only [Value.slice.injEq, Option.some.injEq] at hv
          rw [hv.1] at h4 ⊢
          cases h4
          exact .inl ⟨0, rfl⟩
    · cases h4
      exact .inr h5
theorem Rec.grown_below {w w' : World} {B : Nat} {l : List α} {ao : Option Addr} {c : Nat} (ho : R.Own w B l ao c) (hg : w.grownBy w' (Value.slice ao l.length c).ownBlock) (hB : B ≤ w.heap.size) : Below B w w' :=
  (Below.refl B w).grown hg hB (fun k hk => (World.ownsRow.lt ho k hk).1)
/-- what an append leaves -/
structure Rec.Put (w w' : World) (B : Nat) (l m : List α) (ao : Option Addr) (c : Nat) (ao' : Option Addr) (n' c' : Nat) : Prop where
  len : n' = (l ++ m).length
  own : R.Own w' B (l ++ m) ao' c'
  grown : w.grownBy w' (Value.slice ao l.length c).ownBlock
  below : Below B w w'
  new : ∀ g o, ao' = some ⟨g, o, none⟩ → (∃ o', ao = some ⟨g, o', none⟩) ∨ w.heap.size ≤ g
theorem Rec.wp_put {o : Oper} {a : Act} {w : World} {K : Act → World → Prop} {Q : Exit → Act → World → Prop} (s x : Operand) (ho : o.op = .call { callee := .builtin .append, args := #[s, x], argTypes := #[R.st, R.st] }) (d : Option Tmp) (hd : o.dst = d)
    (B : Nat) (l m : List α) (n1 n2 : Nat) (e1 : n1 = l.length) (e2 : n2 = m.length) (ao bo : Option Addr) (c c2 : Nat) (hs : a.eval s = .slice ao n1 c) (hx : a.eval x = .slice bo n2 c2) (hown : R.Own w B l ao c) (hm : R.At w m bo c2) (hl : (l.length + m.length) * R.bts ≤ 140737488355328) (hB : B ≤ w.heap.size)
    (h : ∀ ao' n' c' w', Hid (R.Put w w' B l m ao c ao' n' c') → K (a.put d (.slice ao' n' c')) w') : o.wp P a w K Q := by
  subst hd e1 e2
  obtain ⟨ao', c', w', hr, h1, h2, h3⟩ := R.run_put w o.type B l m ao bo c c2 hown hm hl hB
  unfold Oper.wp execOp
  simp only [ho, resolve, invoke, builtin, Sem.run_bind, Sem.run_pure, Result.andThen_ok, List.map_toArray, List.map_cons, List.map_nil, hs, hx, hr]
  exact h ao' _ c' w' ⟨rfl, h1, h2, R.grown_below hown h2 hB, h3⟩
theorem Rec.wpList_put {ops : Array Oper} {rest : List Oper} {o : Oper} {a : Act} {w : World} {Q : Exit → Act → World → Prop} (hgd : o.guard = none) (s x : Operand) (ho : o.op = .call { callee := .builtin .append, args := #[s, x], argTypes := #[R.st, R.st] }) (d : Option Tmp) (hd : o.dst = d)
    (B : Nat) (l m : List α) (n1 n2 : Nat) (e1 : n1 = l.length) (e2 : n2 = m.length) (ao bo : Option Addr) (c c2 : Nat) (hs : a.eval s = .slice ao n1 c) (hx : a.eval x = .slice bo n2 c2) (hown : R.Own w B l ao c) (hm : R.At w m bo c2) (hl : (l.length + m.length) * R.bts ≤ 140737488355328) (hB : B ≤ w.heap.size)
    (h : ∀ ao' n' c' w', Hid (R.Put w w' B l m ao c ao' n' c') → wpList P ops Q rest (a.put d (.slice ao' n' c')) w') : wpList P ops Q (o :: rest) a w :=
  wpList_plain hgd fun _ hK => R.wp_put s x ho d hd B l m n1 n2 e1 e2 ao bo c c2 hs hx hown hm hl hB fun ao' n' c' w' hp => hK _ _ (h ao' n' c' w' hp)
end
end Go.Proofs.Ytajbkgcgmkkpiaa.S
