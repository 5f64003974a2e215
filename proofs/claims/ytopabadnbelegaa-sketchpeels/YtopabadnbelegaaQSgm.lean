/- Segments: Merge, the mathematics; laws of variables in a drawn region; the end of a list. Written by mksgm.py. -/
import Derived.Test.YtopabadnbelegaaQSgj
namespace Go.Proofs.Ytopabadnbelegaa.S
open Go.RowKit Go.Lib
/-- what Merge tells -/
abbrev Tell (α β : Type) := ByteArray × Option α × Option β
def mrg {α β : Type} (f : α → ByteArray) (g : β → ByteArray) : List α → List β → List (Tell α β)
  | [], b => b.map fun y => (g y, none, some y)
  | x :: a, [] => (x :: a).map fun x => (f x, some x, none)
  | x :: a, y :: b => if lt (f x) (g y) = true then (f x, some x, none) :: mrg f g a (y :: b) else if lt (g y) (f x) = true then (g y, none, some y) :: mrg f g (x :: a) b else (f x, some x, some y) :: mrg f g a b
termination_by a b => a.length + b.length
section
variable {α β : Type} {f : α → ByteArray} {g : β → ByteArray}
theorem mrg_l (b : List β) : mrg f g [] b = b.map fun y => (g y, none, some y) := by rw [mrg]
theorem mrg_r (a : List α) : mrg f g a [] = a.map fun x => (f x, some x, none) := by
  cases a with
  | nil => rw [mrg]; rfl
  | cons x a => rw [mrg]
theorem mrg_lt {x : α} {y : β} {a : List α} {b : List β} (h : lt (f x) (g y) = true) : mrg f g (x :: a) (y :: b) = (f x, some x, none) :: mrg f g a (y :: b) := by rw [mrg, if_pos h]
theorem mrg_gt {x : α} {y : β} {a : List α} {b : List β} (h : lt (g y) (f x) = true) : mrg f g (x :: a) (y :: b) = (g y, none, some y) :: mrg f g (x :: a) b := by
  rw [mrg, if_neg (by rw [lt_asymm h]; decide), if_pos h]
theorem mrg_eq {x : α} {y : β} {a : List α} {b : List β} (h : f x = g y) : mrg f g (x :: a) (y :: b) = (f x, some x, some y) :: mrg f g a b := by
  rw [mrg, if_neg (by rw [h, lt_irrefl]; decide), if_neg (by rw [h, lt_irrefl]; decide)]
theorem mrg_len : ∀ (a : List α) (b : List β), (mrg f g a b).length ≤ a.length + b.length
  | [], b => by rw [mrg_l]; simp
  | x :: a, [] => by rw [mrg_r]; simp
  | x :: a, y :: b => by
    rw [mrg]
    have h1 := mrg_len a (y :: b)
    have h2 := mrg_len (x :: a) b
    have h3 := mrg_len a b
    split
    · simp only [List.length_cons] at h1 ⊢; omega
    · split
      · simp only [List.length_cons] at h2 ⊢; omega
      · simp only [List.length_cons] at h3 ⊢; omega
termination_by a b => a.length + b.length
end
theorem drop_at {α : Type} {l : List α} {i : Nat} (h : i < l.length) : l.drop i = l[i] :: l.drop (i + 1) := List.drop_eq_getElem_cons h
theorem app_cons {α : Type} (ts : List α) (t : α) (r s : List α) (h : ts ++ (t :: r) = s) : (ts ++ [t]) ++ r = s := by rw [← h]; simp
/- laws -/
theorem wp_alloc_row {P : Program} {o : Oper} {a : Act} {w : World} {K : Act → World → Prop} {Q : Exit → Act → World → Prop} (t : TypeId) (ho : o.op = .alloc t) (d : Option Tmp) (hd : o.dst = d) (N : Nat) (hN : N = w.heap.size)
    (cells : Array Value) (hz : ((P.info? t).bind (·.zero)).map (·.cells) = some cells)
    (h : ∀ w', Hid (w'.heap[N]? = some (.cells cells t (0, 0))) → Hid (Below N w w') → Hid (w'.heap.size = N + 1) → K (a.put d (.pointer (some ⟨N, 0, none⟩))) w') : o.wp P a w K Q := by
  subst hd hN
  obtain ⟨z, h1, h2⟩ := zero_run hz w
  unfold Oper.wp execOp
  simp only [ho, Sem.run_bind, Instr.alloc, h1, newVar, newRow, run_newObj_alloc, Sem.run_pure, Result.andThen_ok, h2]
  exact h _ (heap_alloc_new _ _) ((Below.refl _ _).alloc (Nat.le_refl _) _) (hide (by simp))
/-- what a store into a variable leaves -/
structure St1 (w w' : World) (b : Nat) (o : Obj) : Prop where
  new : w'.heap[b]? = some o
  size : w'.heap.size = w.heap.size
  other : ∀ k, k ≠ b → w'.heap[k]? = w.heap[k]?
  os : w'.os = w.os
  tape : w'.tape = w.tape
  output : w'.output = w.output
theorem St1.below {w w' u : World} {b B : Nat} {o : Obj} (h : St1 w w' b o) (hb : Below B u w) (hB : B ≤ b) : Below B u w' :=
  ⟨h.os.trans hb.os, h.tape.trans hb.tape, h.output.trans hb.output, by rw [h.size]; exact hb.size, fun k hk => (h.other k (by omega)).trans (hb.block k hk)⟩
theorem St1.row (w : World) (b : Nat) {old : Array Value} {t : TypeId} (hg : w.heap[b]? = some (.cells old t (0, 0))) (cs : Array Value) : St1 w (w.setRow b cs) b (.cells cs t (0, 0)) :=
  ⟨heapRow_same hg _, size_setRow _ _ _, fun k hk => heapRow_other w b k cs hk, rfl, rfl, rfl⟩
theorem wp_store_agg {P : Program} {o : Oper} {a : Act} {w : World} {K : Act → World → Prop} {Q : Exit → Act → World → Prop} (ty : TypeId) (x y : Operand) (ho : o.op = .store ty x y) (hd : o.dst = none) (b : Nat) (cs : Array Value) (hx : a.eval x = .pointer (some ⟨b, 0, none⟩)) (hy : a.eval y = .agg cs)
    (old : Array Value) (t : TypeId) (hg : w.heap[b]? = some (.cells old t (0, 0))) (hi : (P.info? ty).map (·.size) = some cs.size) (hs : old.size = cs.size) (h1 : cs.all (·.oneCell') = true)
    (h : ∀ w', Hid (St1 w w' b (.cells cs t (0, 0))) → K a w') : o.wp P a w K Q :=
  wp_store_row ty x y ho b cs hx hy t old hg hi hs h1 (by rw [hd]; exact h _ (St1.row w b hg cs))
theorem there_box {w : World} {b : Nat} {c : Value} {t : TypeId} (hg : w.heap[b]? = some (.cells #[c] t (0, 0))) : w.there b 0 1 := fun j hj => by
  obtain rfl : j = 0 := by omega
  refine ⟨by simp [World.cell?, hg], by simp [World.frozen?, hg]⟩
theorem St1.cell (w : World) (b : Nat) {c v : Value} {t : TypeId} (hg : w.heap[b]? = some (.cells #[c] t (0, 0))) : St1 w (w.setCell ⟨b, 0, none⟩ v) b (.cells #[v] t (0, 0)) :=
  ⟨D.heapCell_same hg 0 v, by simp [World.setCell], fun k hk => Below.heap_setCell w ⟨b, 0, none⟩ v k hk, rfl, rfl, rfl⟩
theorem wp_store_str {P : Program} {o : Oper} {a : Act} {w : World} {K : Act → World → Prop} {Q : Exit → Act → World → Prop} (ty : TypeId) (x y : Operand) (ho : o.op = .store ty x y) (hd : o.dst = none) (b : Nat) (z : ByteArray) (hx : a.eval x = .pointer (some ⟨b, 0, none⟩)) (hy : a.eval y = .string z)
    (c : Value) (t : TypeId) (hg : w.heap[b]? = some (.cells #[c] t (0, 0))) (hi : (P.info? ty).map (·.size) = some 1)
    (h : ∀ w', Hid (St1 w w' b (.cells #[.string z] t (0, 0))) → K a w') : o.wp P a w K Q := by
  have h1 : (storeVar ty ⟨b, 0, none⟩ (.string z)).run P w = .ok () (w.setCells b 0 [.string z]) := run_storeVar_mid (P := P) w b 0 ty #[.string z] (there_box hg) hi (by simp [Value.oneCell'])
  unfold Oper.wp execOp
  simp only [ho, hx, hy, Instr.storeAt, Instr.sureAddr, Sem.run_bind, Sem.run_pure, Result.andThen_ok, h1]
  exact (show K (a.put o.dst undef) _ by rw [hd]; exact h _ (St1.cell w b hg))
theorem wp_store_num {P : Program} {o : Oper} {a : Act} {w : World} {K : Act → World → Prop} {Q : Exit → Act → World → Prop} (ty : TypeId) (x y : Operand) (ho : o.op = .store ty x y) (hd : o.dst = none) (b : Nat) (kd : IntKind) (z : Int) (hx : a.eval x = .pointer (some ⟨b, 0, none⟩)) (hy : a.eval y = .int kd z)
    (c : Value) (t : TypeId) (hg : w.heap[b]? = some (.cells #[c] t (0, 0))) (hi : (P.info? ty).map (·.size) = some 1)
    (h : ∀ w', Hid (St1 w w' b (.cells #[.int kd z] t (0, 0))) → K a w') : o.wp P a w K Q := by
  have h1 : (storeVar ty ⟨b, 0, none⟩ (.int kd z)).run P w = .ok () (w.setCells b 0 [.int kd z]) := run_storeVar_mid (P := P) w b 0 ty #[.int kd z] (there_box hg) hi (by simp [Value.oneCell'])
  unfold Oper.wp execOp
  simp only [ho, hx, hy, Instr.storeAt, Instr.sureAddr, Sem.run_bind, Sem.run_pure, Result.andThen_ok, h1]
  exact (show K (a.put o.dst undef) _ by rw [hd]; exact h _ (St1.cell w b hg))
/-- the end of a list -/
def tlA (ao : Option Addr) (c i k : Nat) : Option Addr := if c = i then ao else ao.map (·.add (i * k))
theorem Rec.tail {P : Program} {α : Type} (R : Rec P α) {w : World} {l : List α} {ao : Option Addr} {c : Nat} (h : R.At w l ao c) (i : Nat) (hi : i ≤ l.length) : R.At w (l.drop i) (tlA ao c i R.n) (c - i) ∧ ∀ W : World, (Instr.slice R.st (.slice ao l.length c) (some (.int .i64 (i : Int))) none none).run P W = .ok (.slice (tlA ao c i R.n) (l.length - i) (c - i)) W := by
  have hc := h.cap
  unfold tlA
  refine ⟨⟨fun h0 => ?_, by rw [List.length_drop]; omega, fun e => ?_, by rw [List.length_drop]; have := h.many; omega⟩, fun W => ?_⟩
  · rw [R.flat_len, List.length_drop] at h0
    have h1 : 0 < l.length - i := Nat.pos_of_ne_zero fun e => by rw [e, Nat.zero_mul] at h0; exact absurd h0 (Nat.lt_irrefl _)
    rw [if_neg (by omega)]
    obtain ⟨g, o, e, hr⟩ := h.lies (by rw [R.flat_len]; exact Nat.mul_pos (by omega) R.hn)
    subst e
    refine ⟨g, o + i * R.n, by simp only [Option.map_some, Addr.add_mid], fun j v hv => ?_⟩
    have hsplit : R.flat l = R.flat (l.take i) ++ R.flat (l.drop i) := by rw [← R.flat_app, List.take_append_drop]
    have hlen : (R.flat (l.take i)).length = i * R.n := by rw [R.flat_len, List.length_take, Nat.min_eq_left hi]
    have := hr (i * R.n + j) v (by rw [hsplit, List.getElem?_append_right (by omega), hlen, Nat.add_sub_cancel_left]; exact hv)
    rw [Nat.add_assoc]
    exact this
  · split at e
    · have := h.nil e; omega
    · cases ao with
      | none => have := h.nil rfl; omega
      | some ad => cases e
  · rw [run_slice_l W R.st _ _ _ (by rw [R.elem]; exact R.und) .i64 i (by omega) (by omega), R.elem, sizeN R.size]
    simp only [Result.andThen_ok, sliced, Int.toNat_natCast]
theorem Below.step {u w w' : World} (h : Below u.heap.size u w) (hb : Below w.heap.size w w') : Below u.heap.size u w' := h.trans (hb.mono h.size)
end Go.Proofs.Ytopabadnbelegaa.S
