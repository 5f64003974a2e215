/- What came in: whole numbers. -/
import Derived.Test.YtinfmomhbegfhaaDoorHallB
import Derived.OpenShut
import Derived.SizedLaws
namespace Go.Proofs.YtinfmomhbegfhaaDoor
open Go.ChangeShapes Go.WideShapes Go.ChangeAt Go.RowKit Go.Deep

section
variable {H : Type} {enc : TypeId × Value → H} {W : World}
theorem choose_list {α : Type} (p : Nat → α → Prop) (n : Nat) (hp : ∀ i, i < n → ∃ x, p i x) : ∃ l : List α, l.length = n ∧ ∀ (j : Nat) (hj : j < l.length), p j l[j] := by
  induction n with
  | zero => exact ⟨[], rfl, by intro j hj; simp at hj⟩
  | succ k ih =>
    obtain ⟨l, hl, hi⟩ := ih (fun i hi => hp i (by omega))
    obtain ⟨x, hx⟩ := hp k (by omega)
    refine ⟨l ++ [x], by simp [hl], fun j hj => ?_⟩
    by_cases hjk : j < l.length
    · rw [List.getElem_append_left hjk]; exact hi j hjk
    · have e : j = k := by simp [hl] at hj; omega
      subst e
      rw [List.getElem_append_right (by omega)]
      simpa [hl] using hx
/-- whole numbers that lie somewhere -/
def LiesI (u : World) (ao : Option Addr) (xs : List Int) : Prop := 0 < xs.length → ∃ g o, ao = some ⟨g, o, none⟩ ∧ g < u.heap.size ∧ ∀ (j : Nat) (hj : j < xs.length), u.cell? ⟨g, o + j, none⟩ = some (.int .i64 xs[j])
theorem LiesI.keep {u u' : World} {ao : Option Addr} {xs : List Int} {B : Nat} (h : LiesI u ao xs) (hb : Below B u u') (hB : u.heap.size ≤ B) : LiesI u' ao xs := fun h0 => by
  obtain ⟨g, o, h1, h2, h3⟩ := h h0
  exact ⟨g, o, h1, by have := hb.size; omega, fun j hj => (hb.cell (p := ⟨g, o + j, none⟩) (by show g < B; omega)).trans (h3 j hj)⟩
theorem cInt : Tryd.prog.cellsOf 3 = 1 := by kernel_rfl
theorem open_ints {base : Nat} {v : Value} {d : DataW H} {ps : List MemPlace} (hval : Value.okWide Tryd.prog W .any base 36 v) (h : DataW.Trod enc Tryd.prog W 0 (fun _ => true) true 36 v d ps) :
    ∃ (ao : Option Addr) (xs : List Int) (cap : Nat), v = .slice ao xs.length cap ∧ xs.length ≤ 9223372036854775807 ∧ LiesI W ao xs ∧ ∀ x ∈ xs, -9223372036854775808 ≤ x ∧ x ≤ 9223372036854775807 := by
  obtain ⟨a, len, cap, rfl⟩ := okWide_slice Tryd.underlying36 hval
  obtain ⟨fuel, hf⟩ := h
  rcases open_slice1 Tryd.underlying36 cInt hf with ⟨hcs, hx⟩ | ⟨x, l', c', m, n, V, D, Pl, hcs, _, hl, hm, hmm, hx, hel⟩
  · simp [Value.cells] at hcs
    obtain ⟨rfl, rfl, rfl⟩ := hcs
    exact ⟨none, [], 0, rfl, by decide, fun h0 => absurd h0 (by simp), by simp⟩
  · simp [Value.cells] at hcs
    obtain ⟨rfl, rfl, rfl⟩ := hcs
    have hmle : len ≤ m := by rw [hmm]; simp; exact hl
    have each : ∀ i, i < len → ∃ y : Int, W.cell? (x.add i) = some (.int .i64 y) ∧ -9223372036854775808 ≤ y ∧ y ≤ 9223372036854775807 := by
      intro i hi
      obtain ⟨h1, h2⟩ := hel i (by omega)
      obtain ⟨z, e, _, hw⟩ := DataW.trod_int Tryd.underlying3 h2
      simp at e
      exact ⟨z, by rw [h1, e], bounds_i64 hw⟩
    obtain ⟨xs, hbl, hbs⟩ := choose_list _ len each
    refine ⟨some x, xs, cap, by rw [hbl], by unfold maxLen at hm; omega, fun h0 => ?_, fun y hy => ?_⟩
    · obtain ⟨b, off, spot⟩ := x
      have hs : spot = none := by
        have := World.cell?_spot (hbs 0 h0).1
        simpa [Addr.add] using this
      subst hs
      refine ⟨b, off, rfl, ?_, fun j hj => ?_⟩
      · have := World.block_lt_of_cell? W _ (hbs 0 h0).1
        rwa [Addr.add_mid] at this
      · have := (hbs j hj).1
        rwa [Addr.add_mid] at this
    · obtain ⟨j, hj, rfl⟩ := List.mem_iff_getElem.1 hy
      exact (hbs j hj).2
end
end Go.Proofs.YtinfmomhbegfhaaDoor
