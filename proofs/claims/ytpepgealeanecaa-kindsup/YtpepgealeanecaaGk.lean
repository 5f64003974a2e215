/- Floats held against one another. -/
import Derived.Test.YtpepgealeanecaaGa
import Derived.Test.YtpepgealeanecaaGl
namespace Go.Proofs.Ytpepgealeanecaa
open Go.RowKit Go.Lib
theorem sg_iff {x : Nat} (hx : x < 18446744073709551616) : sg x = decide (9223372036854775808 ≤ x) := by
  unfold sg
  by_cases h : 9223372036854775808 ≤ x
  · rw [decide_eq_true h, beq_iff_eq]; omega
  · rw [decide_eq_false h]; simp; omega
theorem kSign (x : Nat) (hx : x < 18446744073709551616) (w : World) : Calls Try.prog 62 #[.float .f64 x] w fun e w' => e = .returned (.bool (sg x)) ∧ w' = w := by
  rw [sg_iff hx]
  by_cases h : 9223372036854775808 ≤ x
  · have hw : wrap64 (x : Int) = (x : Int) - 18446744073709551616 := by simp only [wrap64]; omega
    have hn : (x : Int) - 18446744073709551616 < 0 := by omega
    rw [decide_eq_true h]
    generalize (x : Int) - 18446744073709551616 = z at *
    clear h hx
    go_enter Try.func62, Try.ntmps62
    go_wp2
    go_ret
    exact ⟨rfl, rfl⟩
  · have hw : wrap64 (x : Int) = (x : Int) := by simp only [wrap64]; omega
    have hn : ¬ (x : Int) < 0 := by omega
    rw [decide_eq_false h]
    clear h hx
    go_enter Try.func62, Try.ntmps62
    go_wp2
    go_ret
    exact ⟨rfl, rfl⟩
theorem kLesser (x y : Nat) (hx : x < 18446744073709551616) (hy : y < 18446744073709551616) (w : World) : Calls Try.prog 103 #[.float .f64 x, .float .f64 y] w fun e w' => e = .returned (.bool (decide (rk x < rk y))) ∧ w' = w := by
  have HSX := hide (kSign x hx)
  have HSY := hide (kSign y hy)
  by_cases nx : W.isNan x = true
  · have hr : decide (rk x < rk y) = false := by
      rw [decide_eq_false]
      rw [rk_nan nx]
      by_cases ny : W.isNan y = true
      · rw [rk_nan ny]; omega
      · have := (rk_num (b := y) (by simpa using ny)).1; omega
    rw [hr]
    clear hr
    go_enter Try.func103, Try.ntmps103
    go_wp2_with (go_at_call 95; refine (W.cNan _ _).mono ?_; rintro e w' ⟨rfl, rfl⟩)
    go_ret
    exact ⟨rfl, rfl⟩
  · have nx : W.isNan x = false := by simpa using nx
    by_cases ny : W.isNan y = true
    · have hr : decide (rk x < rk y) = true := by
        rw [decide_eq_true]
        rw [rk_nan ny]
        have := (rk_num nx).1; omega
      rw [hr]
      clear hr
      go_enter Try.func103, Try.ntmps103
      go_wp2_with (go_at_call 95; refine (W.cNan _ _).mono ?_; rintro e w' ⟨rfl, rfl⟩)
      go_ret
      exact ⟨rfl, rfl⟩
    · have ny : W.isNan y = false := by simpa using ny
      have hx2 : rung x ≤ 9218868437227405312 := by have := nan_iff x; rw [nx] at this; have := of_decide_eq_false this.symm; omega
      have hy2 : rung y ≤ 9218868437227405312 := by have := nan_iff y; rw [ny] at this; have := of_decide_eq_false this.symm; omega
      have hlt := rk_lt_num nx ny
      have e1 := ord_eq x y
      have e2 := ord_lt x y
      by_cases hk : key x = key y
      · have heq : (FloatKind.f64.format.order x y == some .eq) = true := by rw [e1, decide_eq_true ⟨hx2, hy2, hk⟩]
        have hr : decide (rk x < rk y) = (sg x && !sg y) := by
          rw [Bool.eq_iff_iff, decide_eq_true_iff, hlt]
          simp only [Bool.and_eq_true, Bool.not_eq_true']
          constructor
          · rintro (h | h)
            · omega
            · exact h.2
          · intro h; exact .inr ⟨hk, h⟩
        rw [hr]
        clear hr e1 e2 hlt hk hx2 hy2 hx hy
        cases hsx : sg x <;> rw [hsx] at HSX
        · go_enter Try.func103, Try.ntmps103
          go_wp2_with (first
            | (go_at_call 95; refine (W.cNan _ _).mono ?_; rintro e w' ⟨rfl, rfl⟩)
            | (go_at_call 62; refine (unhide HSX _).mono ?_; rintro e w' ⟨rfl, rfl⟩)
            | fail)
          go_ret
          exact ⟨rfl, rfl⟩
        · generalize sg y = b at *
          go_enter Try.func103, Try.ntmps103
          go_wp2_with (first
            | (go_at_call 95; refine (W.cNan _ _).mono ?_; rintro e w' ⟨rfl, rfl⟩)
            | (go_at_call 62; refine (unhide HSX _).mono ?_; rintro e w' ⟨rfl, hw⟩; subst hw; clear HSX)
            | (go_at_call 62; refine (unhide HSY _).mono ?_; rintro e w' ⟨rfl, hw⟩; subst hw)
            | fail)
          go_ret
          exact ⟨rfl, rfl⟩
      · have heq : (FloatKind.f64.format.order x y == some .eq) = false := by rw [e1, decide_eq_false (fun h => hk h.2.2)]
        have hls : (FloatKind.f64.format.order x y == some .lt) = decide (rk x < rk y) := by
          rw [e2]
          refine decide_eq_decide.2 ?_
          rw [hlt]
          constructor
          · intro h; exact .inl h.2.2
          · rintro (h | h)
            · exact ⟨hx2, hy2, h⟩
            · exact absurd h.1 hk
        generalize decide (rk x < rk y) = r at *
        clear e1 e2 hlt hk hx2 hy2 hx hy
        go_enter Try.func103, Try.ntmps103
        go_wp2_with (go_at_call 95; refine (W.cNan _ _).mono ?_; rintro e w' ⟨rfl, rfl⟩)
        go_ret
        exact ⟨rfl, rfl⟩
theorem kGreater (x y : Nat) (hx : x < 18446744073709551616) (hy : y < 18446744073709551616) (w : World) : Calls Try.prog 87 #[.float .f64 x, .float .f64 y] w fun e w' => e = .returned (.float .f64 (grt x y)) ∧ w' = w := by
  have HL := hide (kLesser x y hx hy)
  by_cases h : rk x < rk y
  · rw [decide_eq_true h] at HL
    rw [show grt x y = y from if_pos h]
    clear h hx hy
    go_enter Try.func87, Try.ntmps87
    go_wp2_with (go_at_call 103; refine (unhide HL _).mono ?_; rintro e w' ⟨rfl, rfl⟩)
    go_ret
    exact ⟨rfl, rfl⟩
  · rw [decide_eq_false h] at HL
    rw [show grt x y = x from if_neg h]
    clear h hx hy
    go_enter Try.func87, Try.ntmps87
    go_wp2_with (go_at_call 103; refine (unhide HL _).mono ?_; rintro e w' ⟨rfl, rfl⟩)
    go_ret
    exact ⟨rfl, rfl⟩
end Go.Proofs.Ytpepgealeanecaa
