/- Lists of one-celled elements that grow. -/
import Derived.Test.YtpepgealeanecaaGe
namespace Go.Proofs.Ytpepgealeanecaa
open Go.RowKit Go.Lib
/-- what is asked of a type whose values have one cell -/
structure El (t e : TypeId) (bytes : Nat) : Prop where
  und : Try.prog.underlying t = some (.slice e)
  info : ∃ i z, Try.prog.info? e = some i ∧ i.zero = some z ∧ i.size = 1 ∧ i.bytes = bytes ∧ z.cells.size = 1
theorem el_of {t e : TypeId} {bytes : Nat} (h1 : Try.prog.underlying t = some (.slice e)) {z : Value} (h2 : (Try.prog.info? e).map (fun i => (i.zero, i.size, i.bytes)) = some (some z, 1, bytes)) (h3 : z.cells.size = 1) : El t e bytes := by
  refine ⟨h1, ?_⟩
  cases hq : Try.prog.info? e with
  | none => simp [hq] at h2
  | some i =>
    simp only [hq, Option.map_some, Option.some.injEq, Prod.mk.injEq] at h2
    exact ⟨i, z, rfl, h2.1, h2.2.1, h2.2.2, h3⟩
theorem elF : El 28 36 8 := el_of Try.underlying28 (z := .float .f64 0) (by kernel_rfl) rfl
theorem elR : El 30 21 4 := el_of Try.underlying30 (z := .int .i32 0) (by kernel_rfl) rfl
/-- append of one onto a list of one's own -/
theorem run_putV {t e : TypeId} {bytes : Nat} (E : El t e bytes) (w : World) (ty : TypeId) (B : Nat) (xs : List Value) (x : Value) (ao : Option Addr) (n c g o d : Nat) (ho : w.ownsRow B e 1 (.slice ao n c) n xs) (hx : w.cell? ⟨g, o, none⟩ = some x) (h1 : x.oneCell' = true) (hl : (n + 1) * bytes ≤ 140737488355328) (hn : n + 1 ≤ maxLen) (hB : B ≤ w.heap.size) :
    ∃ ao' c' w', (Builtin.append_ #[t, t] ty #[.slice ao n c, .slice (some ⟨g, o, none⟩) 1 d]).run Try.prog w = .ok (.slice ao' (n + 1) c') w' ∧ w'.ownsRow B e 1 (.slice ao' (n + 1) c') (n + 1) (xs ++ [x]) ∧ w.grownBy w' (Value.slice ao n c).ownBlock ∧ (∀ k o', ao' = some ⟨k, o', none⟩ → (∃ o2, ao = some ⟨k, o2, none⟩) ∨ w.heap.size ≤ k) := by
  obtain ⟨i, z, hi, hz, hs, hby, hzs⟩ := E.info
  obtain ⟨v', w', hr, h2, h3, h4⟩ := W.run_append_own' (P := Try.prog) w B t ty e i z 1 bytes E.und hi hz hs hby hzs (by decide) (.slice ao n c) n xs ho ⟨g, o, none⟩ 1 d [x] rfl (fun j u hu => by
    cases j with
    | zero => simp at hu; subst hu; rw [Addr.add_mid]; exact hx
    | succ j => simp at hu) (fun u hu => by simp at hu; subst hu; exact h1) hn hl hB
  obtain ⟨ao', c', rfl⟩ := W.owns_shape h2
  refine ⟨ao', c', w', hr, h2, h3, fun k o' hg => ?_⟩
  subst hg
  rcases h4 with h4 | ⟨g', h4, h5⟩
  · cases ao with
    | none => cases h4
    | some ad =>
      obtain ⟨g1, o1, i1⟩ := ad
      rcases ho.2 with ⟨hv, _⟩ | ⟨g2, cap2, cur2, hv, _⟩
      · simp at hv
      · simp only [Value.slice.injEq, Option.some.injEq] at hv
        rw [hv.1] at h4 ⊢
        cases h4
        exact .inl ⟨0, rfl⟩
  · cases h4
    exact .inr h5
theorem grownV {w w' : World} {B e n c : Nat} {xs : List Value} {ao : Option Addr} (ho : w.ownsRow B e 1 (.slice ao n c) n xs) (hg : w.grownBy w' (Value.slice ao n c).ownBlock) (hB : B ≤ w.heap.size) : Below B w w' :=
  (Below.refl B w).grown hg hB (fun k hk => (World.ownsRow.lt ho k hk).1)
theorem wp_putV {o : Oper} {a : Act} {w : World} {K : Act → World → Prop} {Q : Exit → Act → World → Prop} {t e : TypeId} {bytes : Nat} (E : El t e bytes) (s y : Operand) (ho : o.op = .call { callee := .builtin .append, args := #[s, y], argTypes := #[t, t] }) (d : Option Tmp) (hd : o.dst = d)
    (B : Nat) (xs : List Value) (x : Value) (ao : Option Addr) (n c g q cc : Nat) (hs : a.eval s = .slice ao n c) (hy : a.eval y = .slice (some ⟨g, q, none⟩) 1 cc) (hown : w.ownsRow B e 1 (.slice ao n c) n xs) (hx : w.cell? ⟨g, q, none⟩ = some x) (h1 : x.oneCell' = true) (hl : (n + 1) * bytes ≤ 140737488355328) (hn : n + 1 ≤ maxLen) (hB : B ≤ w.heap.size)
    (h : ∀ ao' n' c' w', Hid (n' = n + 1) → Hid (w'.ownsRow B e 1 (.slice ao' n' c') n' (xs ++ [x])) → Hid (w.grownBy w' (Value.slice ao n c).ownBlock) → Hid (Below B w w') → K (a.put d (.slice ao' n' c')) w') : o.wp Try.prog a w K Q := by
  subst hd
  obtain ⟨ao', c', w', hr, h2, h3, h4⟩ := run_putV E w o.type B xs x ao n c g q cc hown hx h1 hl hn hB
  unfold Oper.wp execOp
  simp only [ho, resolve, invoke, builtin, Sem.run_bind, Sem.run_pure, Result.andThen_ok, List.map_toArray, List.map_cons, List.map_nil, hs, hy, hr]
  exact h ao' _ c' w' rfl h2 h3 (grownV hown h3 hB)
theorem wpList_putV {ops : Array Oper} {rest : List Oper} {o : Oper} {a : Act} {w : World} {Q : Exit → Act → World → Prop} (hgd : o.guard = none) {t e : TypeId} {bytes : Nat} (E : El t e bytes) (s y : Operand) (ho : o.op = .call { callee := .builtin .append, args := #[s, y], argTypes := #[t, t] }) (d : Option Tmp) (hd : o.dst = d)
    (B : Nat) (xs : List Value) (x : Value) (ao : Option Addr) (n c g q cc : Nat) (hs : a.eval s = .slice ao n c) (hy : a.eval y = .slice (some ⟨g, q, none⟩) 1 cc) (hown : w.ownsRow B e 1 (.slice ao n c) n xs) (hx : w.cell? ⟨g, q, none⟩ = some x) (h1 : x.oneCell' = true) (hl : (n + 1) * bytes ≤ 140737488355328) (hn : n + 1 ≤ maxLen) (hB : B ≤ w.heap.size)
    (h : ∀ ao' n' c' w', Hid (n' = n + 1) → Hid (w'.ownsRow B e 1 (.slice ao' n' c') n' (xs ++ [x])) → Hid (w.grownBy w' (Value.slice ao n c).ownBlock) → Hid (Below B w w') → wpList Try.prog ops Q rest (a.put d (.slice ao' n' c')) w') : wpList Try.prog ops Q (o :: rest) a w :=
  wpList_plain hgd fun _ hK => wp_putV E s y ho d hd B xs x ao n c g q cc hs hy hown hx h1 hl hn hB fun ao' n' c' w' h1 h2 h3 h4 => hK _ _ (h ao' n' c' w' h1 h2 h3 h4)
theorem bsF (W : World) (x : Nat) : (Instr.buildSlice 28 1 #[(0, .float .f64 x)]).run Try.prog W = .ok (.slice (some ⟨W.heap.size, 0, none⟩) 1 1) (W.alloc (.cells #[.float .f64 x] 36)) := by kernel_rfl
theorem bsR (W : World) (x : Int) : (Instr.buildSlice 30 1 #[(0, .int .i32 x)]).run Try.prog W = .ok (.slice (some ⟨W.heap.size, 0, none⟩) 1 1) (W.alloc (.cells #[.int .i32 x] 21)) := by kernel_rfl
theorem one_cell (W : World) (v : Value) (t : TypeId) : (W.alloc (.cells #[v] t)).cell? ⟨W.heap.size, 0, none⟩ = some v := by
  have h1 : (W.alloc (.cells #[v] t)).heap[W.heap.size]? = some (.cells #[v] t (0, 0)) := heap_alloc_new _ _
  simp only [World.cell?, h1]
  rfl
theorem wp_store_sl {P : Program} {o : Oper} {a : Act} {w : World} {K : Act → World → Prop} {Q : Exit → Act → World → Prop} (ty : TypeId) (x y : Operand) (ho : o.op = .store ty x y) (hd : o.dst = none) (b k : Nat) (ao : Option Addr) (n c : Nat) (hx : a.eval x = .pointer (some ⟨b, k, none⟩)) (hy : a.eval y = .slice ao n c)
    (ht : w.there b k 1) (hi : (P.info? ty).map (·.size) = some 1) (h : K a (w.setCell ⟨b, k, none⟩ (.slice ao n c))) : o.wp P a w K Q := by
  have h1 : (storeVar ty ⟨b, k, none⟩ (.slice ao n c)).run P w = .ok () (w.setCells b k [.slice ao n c]) := run_storeVar_mid (P := P) w b k ty #[.slice ao n c] ht hi (by simp [Value.oneCell'])
  unfold Oper.wp execOp
  simp only [ho, hx, hy, Instr.storeAt, Instr.sureAddr, Sem.run_bind, Sem.run_pure, Result.andThen_ok, h1]
  exact (show K (a.put o.dst undef) _ by rw [hd]; exact h)
theorem infoF : (Try.prog.info? 28).map (·.size) = some 1 := by kernel_rfl
theorem infoR : (Try.prog.info? 30).map (·.size) = some 1 := by kernel_rfl
theorem entRF : ∀ args (w : World), (callFunc 70 args).run Try.prog w = .ok (.enter 70 args) w := by
  intro args w
  go_simp
/-- the value behind its slices, told: all kinds -/
theorem tTold (t : Ty) (hk : t.k = 1 ∨ t.k = 2 ∨ t.k = 3 ∨ t.k = 4 ∨ t.k = 5) (fa : Option Addr) (fc : Nat) (ra : Option Addr) (rc n m : Nat) (hn : n = t.fl.length) (hm : m = t.ru.length) (u : World) (h : TAt u t fa fc ra rc) :
    Calls Try.prog 52 #[tyV t.k t.on fa n fc t.ta ra m rc] u fun e u' => e = .returned (.string ⟨(toldM t).toArray⟩) ∧ Below u.heap.size u u' := by
  rcases hk with hk | hk | hk | hk | hk
  · have := told1 t hk fa fc ra rc n m hn hm u h; rw [hk]; exact this
  · have := told2 t hk fa fc ra rc n m hn hm u h; rw [hk]; exact this
  · have := told3 t hk fa fc ra rc n m hn hm u h; rw [hk]; exact this
  · have := told4 t hk fa fc ra rc n m hn hm u h; rw [hk]; exact this
  · have := told5 t hk fa fc ra rc n m hn hm u h; rw [hk]; exact this
end Go.Proofs.Ytpepgealeanecaa
