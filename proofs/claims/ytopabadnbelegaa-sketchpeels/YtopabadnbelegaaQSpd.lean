/- Lists behind a slice whose length is not bounded beforehand: append. -/
import Derived.Test.YtopabadnbelegaaQSpb
namespace Go.Proofs.Ytopabadnbelegaa.S
open Go.RowKit Go.Lib
section
variable {P : Program} {α : Type} (R : Rec P α)
/-- a list behind a slice, of any length -/
structure Rec.At0 (w : World) (l : List α) (ao : Option Addr) (c : Nat) : Prop where
  lies : Lies w ao (R.flat l)
  cap : l.length ≤ c
  nil : ao = none → c = 0
theorem Rec.At0.below {R : Rec P α} {w w' : World} {l : List α} {ao : Option Addr} {c : Nat} (h : R.At0 w l ao c) (hb : Below w.heap.size w w') : R.At0 w' l ao c := ⟨h.lies.below hb, h.cap, h.nil⟩
theorem Rec.At0.to {R : Rec P α} {w : World} {l : List α} {ao : Option Addr} {c : Nat} (h : R.At0 w l ao c) (hm : l.length ≤ 4398046511000) : R.At w l ao c := ⟨h.lies, h.cap, h.nil, hm⟩
/-- append of a list onto a list of one's own -/
theorem Rec.run_put0 (w : World) (ty : TypeId) (B : Nat) (l m : List α) (ao bo : Option Addr) (c d : Nat) (ho : R.Own w B l ao c) (hm : R.At0 w m bo d) (hl : (l.length + m.length) * R.bts ≤ 140737488355328) (hB : B ≤ w.heap.size) :
    ∃ ao' c' w', (Builtin.append_ #[R.st, R.st] ty #[.slice ao l.length c, .slice bo m.length d]).run P w = .ok (.slice ao' (l ++ m).length c') w' ∧ R.Own w' B (l ++ m) ao' c' ∧ w.grownBy w' (Value.slice ao l.length c).ownBlock ∧ (∀ g o, ao' = some ⟨g, o, none⟩ → (∃ o', ao = some ⟨g, o', none⟩) ∨ w.heap.size ≤ g) := by
  obtain ⟨i, z, hi, hz, hzs, hs, hby⟩ := R.info
  cases bo with
  | none =>
    obtain rfl := hm.nil rfl
    obtain rfl : m = [] := List.eq_nil_of_length_eq_zero (by have := hm.cap; omega)
    rw [List.append_nil]
    exact ⟨ao, c, w, run_append_owned_none (P := P) (w := w) B R.st ty R.et i R.n R.und hi _ _ _ ho, ho, World.grownBy.refl _ _, fun g o h => .inl ⟨o, h⟩⟩
  | some ad =>
    have hle : l.length + m.length ≤ 140737488355328 := Nat.le_trans (Nat.le_mul_of_pos_right _ R.pos) hl
    obtain ⟨v', w', hr, h2, h3, h4⟩ := W.run_append_own' (P := P) w B R.st ty R.et i z R.n R.bts R.und hi hz hs hby hzs R.hn (.slice ao l.length c) l.length (R.flat l) ho ad m.length d (R.flat m) (R.flat_len m) (fun j u hu => by
      obtain ⟨g, o, he, hr⟩ := hm.lies (by have := (List.getElem?_eq_some_iff.1 hu).1; omega)
      cases he
      rw [Addr.add_mid]
      exact hr j u hu) (R.flat_one m) (by unfold maxLen; omega) hl hB
    obtain ⟨ao', c', rfl⟩ := W.owns_shape h2
    rw [← List.length_append, ← R.flat_app] at h2
    rw [← List.length_append] at hr
    refine ⟨ao', c', w', hr, h2, h3, fun g o hg => ?_⟩
    subst hg
    rcases h4 with h4 | ⟨g', h4, h5⟩
    · cases ao with
      | none => cases h4
      | some ad =>
        obtain ⟨g1, o1, i1⟩ := ad
        rcases ho.2 with ⟨hv, _⟩ | ⟨g2, cap2, cur2, hv, _⟩
        · simp at hv
        · simp only [Value.slice.injEq, Option.some.injEq] at hv
          rw [hv.1] at h4 ⊢
          cases h4
          exact .inl ⟨0, rfl⟩
    · cases h4
      exact .inr h5
theorem Rec.wp_put0 {o : Oper} {a : Act} {w : World} {K : Act → World → Prop} {Q : Exit → Act → World → Prop} (s x : Operand) (ho : o.op = .call { callee := .builtin .append, args := #[s, x], argTypes := #[R.st, R.st] }) (d : Option Tmp) (hd : o.dst = d)
    (B : Nat) (l m : List α) (n1 n2 : Nat) (e1 : n1 = l.length) (e2 : n2 = m.length) (ao bo : Option Addr) (c c2 : Nat) (hs : a.eval s = .slice ao n1 c) (hx : a.eval x = .slice bo n2 c2) (hown : R.Own w B l ao c) (hm : R.At0 w m bo c2) (hl : (l.length + m.length) * R.bts ≤ 140737488355328) (hB : B ≤ w.heap.size)
    (h : ∀ ao' n' c' w', Hid (R.Put w w' B l m ao c ao' n' c') → K (a.put d (.slice ao' n' c')) w') : o.wp P a w K Q := by
  subst hd e1 e2
  obtain ⟨ao', c', w', hr, h1, h2, h3⟩ := R.run_put0 w o.type B l m ao bo c c2 hown hm hl hB
  unfold Oper.wp execOp
  simp only [ho, resolve, invoke, builtin, Sem.run_bind, Sem.run_pure, Result.andThen_ok, List.map_toArray, List.map_cons, List.map_nil, hs, hx, hr]
  exact h ao' _ c' w' ⟨rfl, h1, h2, R.grown_below hown h2 hB, h3⟩
theorem Rec.wpList_put0 {ops : Array Oper} {rest : List Oper} {o : Oper} {a : Act} {w : World} {Q : Exit → Act → World → Prop} (hgd : o.guard = none) (s x : Operand) (ho : o.op = .call { callee := .builtin .append, args := #[s, x], argTypes := #[R.st, R.st] }) (d : Option Tmp) (hd : o.dst = d)
    (B : Nat) (l m : List α) (n1 n2 : Nat) (e1 : n1 = l.length) (e2 : n2 = m.length) (ao bo : Option Addr) (c c2 : Nat) (hs : a.eval s = .slice ao n1 c) (hx : a.eval x = .slice bo n2 c2) (hown : R.Own w B l ao c) (hm : R.At0 w m bo c2) (hl : (l.length + m.length) * R.bts ≤ 140737488355328) (hB : B ≤ w.heap.size)
    (h : ∀ ao' n' c' w', Hid (R.Put w w' B l m ao c ao' n' c') → wpList P ops Q rest (a.put d (.slice ao' n' c')) w') : wpList P ops Q (o :: rest) a w :=
  wpList_plain hgd fun _ hK => R.wp_put0 s x ho d hd B l m n1 n2 e1 e2 ao bo c c2 hs hx hown hm hl hB fun ao' n' c' w' hp => hK _ _ (h ao' n' c' w' hp)
end
end Go.Proofs.Ytopabadnbelegaa.S
namespace Go.Proofs.Ytopabadnbelegaa.K
open Go.RowKit Go.Lib
theorem wpList_putC0 {ops : Array Oper} {rest : List Oper} {o : Oper} {a : Act} {w : World} {Q : Exit → Act → World → Prop} (hgd : o.guard = none) (s x : Operand) (ho : o.op = .call { callee := .builtin .append, args := #[s, x], argTypes := #[32, 32] }) (d : Option Tmp) (hd : o.dst = d)
    (B : Nat) (l m : List Ce) (n1 n2 : Nat) (e1 : n1 = l.length) (e2 : n2 = m.length) (ao bo : Option Addr) (c c2 : Nat) (hs : a.eval s = .slice ao n1 c) (hx : a.eval x = .slice bo n2 c2) (hown : RC.Own w B l ao c) (hm : RC.At0 w m bo c2) (hl : (l.length + m.length) * 24 ≤ 140737488355328) (hB : B ≤ w.heap.size)
    (h : ∀ ao' n' c' w', Hid (RC.Put w w' B l m ao c ao' n' c') → wpList Try.prog ops Q rest (a.put d (.slice ao' n' c')) w') : wpList Try.prog ops Q (o :: rest) a w :=
  RC.wpList_put0 hgd s x ho d hd B l m n1 n2 e1 e2 ao bo c c2 hs hx hown hm hl hB h
end Go.Proofs.Ytopabadnbelegaa.K
