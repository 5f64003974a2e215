/- The order of floats: KindsOrder. -/
import Derived.Test.YtpepgealeanecaaGq
import Derived.Test.YtpepgealeanecaaGj
namespace Go.Proofs.Ytpepgealeanecaa
open Go.RowKit Go.Lib
theorem grt_flt (x y : Nat) : grt (W.fltB x) (W.fltB y) = W.fltB (grt x y) := by
  unfold grt
  rw [rk_flt, rk_flt]
  split <;> rfl
theorem tjn0 : tjn ta0 ta0 = ta0 := by decide
theorem jn_r (x y : Nat) : jnT (rT x) (rT y) = rT (grt x y) := by
  simp only [jnT, rT, List.zipWith_cons_cons, List.zipWith_nil_left, grt_flt, tjn0, Bool.or_self]
theorem jn_c (x y z w : Nat) : jnT (cT x y) (cT z w) = cT (grt x z) (grt y w) := by
  simp only [jnT, cT, List.zipWith_cons_cons, List.zipWith_nil_left, grt_flt, tjn0, Bool.or_self]
theorem pl_r (x : Nat) : Pl (rT x) := ⟨.inr (.inl rfl), rfl, by simp [rT]⟩
theorem pl_c (x y : Nat) : Pl (cT x y) := ⟨.inr (.inr (.inr rfl)), rfl, by simp [cT]⟩
theorem jo_r {x y : Nat} (hx : x < 18446744073709551616) (hy : y < 18446744073709551616) : Jo (tS (rT x)) (tS (rT y)) (rT x) (rT y) :=
  ⟨takes_r hx, takes_r hy, rfl, pl_r x, pl_r y, rfl, by rw [jn_r, told_r]; simp [W.fixB_length]⟩
theorem jo_c {x y z w : Nat} (hx : x < 18446744073709551616) (hy : y < 18446744073709551616) (hz : z < 18446744073709551616) (hw : w < 18446744073709551616) : Jo (tS (cT x y)) (tS (cT z w)) (cT x y) (cT z w) :=
  ⟨takes_c hx hy, takes_c hz hw, rfl, pl_c x y, pl_c z w, rfl, by rw [jn_c, told_c]; simp [W.fixB_length]⟩
theorem grt_lt {x y : Nat} (hx : x < 18446744073709551616) (hy : y < 18446744073709551616) : grt x y < 18446744073709551616 := by unfold grt; split <;> omega
theorem fix_flt {x y : Nat} (hx : x < 18446744073709551616) (hy : y < 18446744073709551616) : W.fixB (W.fltB x) 8 = W.fixB (W.fltB y) 8 ↔ rk x = rk y := by
  rw [W.fixB_inj _ _ 8 (flt_lt hx) (flt_lt hy), rk_inj hx hy]
theorem rk_grt (x y : Nat) : rk (grt x y) = max (rk x) (rk y) := by
  unfold grt; split <;> omega
theorem told_rr {x y : Nat} (hx : x < 18446744073709551616) (hy : y < 18446744073709551616) : decide (toldM (jnT (rT x) (rT y)) = (tS (rT y)).data.toList) = !decide (rk y < rk x) := by
  rw [← decide_not]
  refine decide_eq_decide.2 ?_
  rw [tS_list, jn_r, told_r, told_r]
  have h := fix_flt (grt_lt hx hy) hy
  rw [rk_grt] at h
  rw [List.append_cancel_left_eq, h]
  omega
theorem told_cc {x y : Nat} (hx : x < 18446744073709551616) (hy : y < 18446744073709551616) : decide (toldM (jnT (cT x y) (cT y x)) = (tS (cT y x)).data.toList) = (!decide (rk y < rk x) && !decide (rk x < rk y)) := by
  rw [← decide_not, ← decide_not, ← Bool.decide_and]
  refine decide_eq_decide.2 ?_
  rw [tS_list, jn_c, told_c, told_c, List.append_cancel_left_eq]
  have h1 := fix_flt (grt_lt hx hy) hy
  have h2 := fix_flt (grt_lt hy hx) hx
  rw [rk_grt] at h1 h2
  constructor
  · intro h
    have := List.append_inj h (by simp [W.fixB_length])
    have q1 := h1.1 this.1
    have q2 := h2.1 this.2
    omega
  · intro h
    rw [h1.2 (by omega), h2.2 (by omega)]
theorem kAbove (x y : Nat) (hx : x < 18446744073709551616) (hy : y < 18446744073709551616) (w : World) : Calls Try.prog 36 #[.float .f64 x, .float .f64 y] w fun e w' => e = .returned (.bool (decide (rk y < rk x))) ∧ w' = w := by
  have HSX := hide (kSign x hx)
  have HSY := hide (kSign y hy)
  by_cases nx : W.isNan x = true
  · have hr : decide (rk y < rk x) = !W.isNan y := by
      rw [rk_nan nx]
      by_cases ny : W.isNan y = true
      · rw [rk_nan ny, ny]; decide
      · have := (rk_num (b := y) (by simpa using ny)).1
        rw [show W.isNan y = false by simpa using ny, decide_eq_true (by omega)]; rfl
    have he : (FloatKind.f64.format.order y y == some .eq) = !W.isNan y := by unfold W.isNan; simp [bne]
    rw [hr]
    generalize W.isNan y = b at *
    unfold W.isNan at nx
    clear hr hx hy
    go_enter Try.func36, Try.ntmps36
    go_wp2
    go_ret
    exact ⟨rfl, rfl⟩
  · have nx : W.isNan x = false := by simpa using nx
    by_cases ny : W.isNan y = true
    · have hr : decide (rk y < rk x) = false := by
        rw [rk_nan ny, decide_eq_false]
        have := (rk_num nx).1; omega
      rw [hr]
      unfold W.isNan at nx ny
      clear hr hx hy
      go_enter Try.func36, Try.ntmps36
      go_wp2
      go_ret
      exact ⟨rfl, rfl⟩
    · have ny : W.isNan y = false := by simpa using ny
      have hx2 : rung x ≤ 9218868437227405312 := by have := nan_iff x; rw [nx] at this; have := of_decide_eq_false this.symm; omega
      have hy2 : rung y ≤ 9218868437227405312 := by have := nan_iff y; rw [ny] at this; have := of_decide_eq_false this.symm; omega
      have hlt := rk_lt_num ny nx
      have e1 := ord_gt x y
      have k0 : key 0 = 0 := by decide
      have r0 : rung 0 = 0 := by decide
      have e2 := ord_eq x 0
      have e3 := ord_eq y 0
      rw [k0, r0] at e2 e3
      have kx := key_eq x
      have ky := key_eq y
      by_cases hk : key y < key x
      · have hgt : (FloatKind.f64.format.order x y == some .gt) = true := by rw [e1, decide_eq_true ⟨hx2, hy2, hk⟩]
        have hr : decide (rk y < rk x) = true := by rw [decide_eq_true]; rw [hlt]; exact .inl hk
        rw [hr]
        unfold W.isNan at nx ny
        clear hr hx hy e1 e2 e3 kx ky hk hlt hx2 hy2
        go_enter Try.func36, Try.ntmps36
        go_wp2
        go_ret
        exact ⟨rfl, rfl⟩
      · have hgt : (FloatKind.f64.format.order x y == some .gt) = false := by rw [e1, decide_eq_false (fun h => hk h.2.2)]
        by_cases h0 : key x = 0
        · have hx0 : (FloatKind.f64.format.order x 0 == some .eq) = true := by rw [e2, decide_eq_true ⟨hx2, by decide, h0⟩]
          by_cases h1 : key y = 0
          · have hy0 : (FloatKind.f64.format.order y 0 == some .eq) = true := by rw [e3, decide_eq_true ⟨hy2, by decide, h1⟩]
            have hr : decide (rk y < rk x) = (!sg x && sg y) := by
              rw [Bool.eq_iff_iff, decide_eq_true_iff, hlt]
              simp only [Bool.and_eq_true, Bool.not_eq_true']
              constructor
              · rintro (h | h)
                · omega
                · exact ⟨h.2.2, h.2.1⟩
              · intro h; exact .inr ⟨by omega, h.2, h.1⟩
            rw [hr]
            unfold W.isNan at nx ny
            clear hr hx hy e1 e2 e3 kx ky hk hlt hx2 hy2 h0 h1
            cases hsx : sg x <;> rw [hsx] at HSX
            · generalize sg y = b at *
              go_enter Try.func36, Try.ntmps36
              go_wp2_with (first
                | (go_at_call 62; refine (unhide HSX _).mono ?_; rintro e w' ⟨rfl, hw⟩; subst hw; clear HSX)
                | (go_at_call 62; refine (unhide HSY _).mono ?_; rintro e w' ⟨rfl, hw⟩; subst hw)
                | fail)
              go_ret
              exact ⟨rfl, rfl⟩
            · go_enter Try.func36, Try.ntmps36
              go_wp2_with (first
                | (go_at_call 62; refine (unhide HSX _).mono ?_; rintro e w' ⟨rfl, hw⟩; subst hw)
                | fail)
              go_ret
              exact ⟨rfl, rfl⟩
          · have hy0 : (FloatKind.f64.format.order y 0 == some .eq) = false := by rw [e3, decide_eq_false (fun h => h1 h.2.2)]
            have hr : decide (rk y < rk x) = false := by
              rw [decide_eq_false]; rw [hlt]; omega
            rw [hr]
            unfold W.isNan at nx ny
            clear hr hx hy e1 e2 e3 kx ky hk hlt hx2 hy2 h0 h1
            go_enter Try.func36, Try.ntmps36
            go_wp2
            go_ret
            exact ⟨rfl, rfl⟩
        · have hx0 : (FloatKind.f64.format.order x 0 == some .eq) = false := by rw [e2, decide_eq_false (fun h => h0 h.2.2)]
          have hr : decide (rk y < rk x) = false := by
            rw [decide_eq_false]; rw [hlt]
            rintro (h | ⟨h2, h3, h4⟩)
            · omega
            · rw [h3] at ky; rw [h4] at kx
              simp at kx ky
              omega
          rw [hr]
          unfold W.isNan at nx ny
          clear hr hx hy e1 e2 e3 kx ky hk hlt hx2 hy2 h0
          go_enter Try.func36, Try.ntmps36
          go_wp2
          go_ret
          exact ⟨rfl, rfl⟩
theorem kInf (w : World) : Calls Try.prog 37 #[.int .i64 1] w fun e w' => e = .returned (.float .f64 9218868437227405312) ∧ w' = w := by
  go_enter Try.func37, Try.ntmps37
  go_wp2
  go_ret
  exact ⟨rfl, rfl⟩
theorem kNaN (w : World) : Calls Try.prog 38 #[] w fun e w' => e = .returned (.float .f64 9221120237041090561) ∧ w' = w := by
  go_enter Try.func38, Try.ntmps38
  go_wp2
  go_ret
  exact ⟨rfl, rfl⟩
set_option maxRecDepth 100000 in
theorem kCopy (w : World) : Calls Try.prog 39 #[.float .f64 0, .float .f64 13830554455654793216] w fun e w' => e = .returned (.float .f64 9223372036854775808) ∧ w' = w := by
  have h1 : bits .andNot .u64 0 9223372036854775808 = 0 := by decide
  have h2 : bits .and .u64 13830554455654793216 9223372036854775808 = 9223372036854775808 := by decide
  have h3 : bits .or .u64 0 9223372036854775808 = 9223372036854775808 := by decide
  go_enter Try.func39, Try.ntmps39
  go_wp2
  go_ret
  exact ⟨rfl, rfl⟩
theorem same_true {z x : Nat} (h : W.fltB z = W.fltB x) : W.sameB (W.fltB z) x = true := by rw [h]; exact same_flt x
theorem same_refl (z : Nat) : W.sameB z z = true := by
  unfold W.sameB
  by_cases h : W.isNan z = true
  · rw [if_pos (.inl h), h]; rfl
  · rw [if_neg (by simp [h])]; simp
set_option maxRecDepth 100000 in
set_option maxHeartbeats 16000000 in
theorem order12_walk (x y : Nat) (hx : x < 18446744073709551616) (hy : y < 18446744073709551616) (u : World) : Calls Try.prog 9 #[.int .u64 (x : Int), .int .u64 (y : Int)] u fun e u' => e = .returned (.bool true) ∧ Below u.heap.size u u' := by
  have hz := grt_lt hx hy
  have hz' := grt_lt hy hx
  have hzz : W.fltB (grt y x) = W.fltB (grt x y) := (rk_inj hz' hz).1 (by rw [rk_grt, rk_grt]; omega)
  have HR1 := hide (fun (w : World) => kReal x hx w)
  have HR2 := hide (fun (w : World) => kReal y hy w)
  have HC1 := hide (fun (w : World) => kCorner x y hx hy w)
  have HC2 := hide (fun (w : World) => kCorner y x hy hx w)
  have HB1 := hide (fun (w : World) => kBelow _ _ _ _ (jo_r hx hy) _ (told_rr hx hy) w)
  have HB2 := hide (fun (w : World) => kBelow _ _ _ _ (jo_r hy hx) _ (told_rr hy hx) w)
  have HB3 := hide (fun (w : World) => kBelow _ _ _ _ (jo_c hx hy hy hx) _ (told_cc hx hy) w)
  have HA1 := hide (fun (w : World) => kAbove x y hx hy w)
  have HA2 := hide (fun (w : World) => kAbove y x hy hx w)
  have HJ1 := hide (fun (w : World) => kJoin _ _ _ _ (jo_c hx hy hy hx) w)
  have HJ2 := hide (fun (w : World) => kJoin _ _ _ _ (jo_r hx hy) w)
  rw [jn_c] at HJ1
  rw [jn_r] at HJ2
  have HAR := hide (fun (w : World) => kAsReal (tS (rT (grt x y))) (rT (grt x y)) rfl (W.fltB (grt x y)) rfl (takes_r hz) w)
  have HAC := hide (fun (w : World) => kAsCorner (tS (cT (grt x y) (grt y x))) (cT (grt x y) (grt y x)) rfl (W.fltB (grt x y)) (W.fltB (grt y x)) rfl (takes_c hz hz') w)
  rw [hzz] at HAC
  have HS1 : Hid (∀ w : World, Calls Try.prog 25 #[.float .f64 (W.fltB (grt x y)), .float .f64 (W.fltB (grt x y))] w fun e w' => e = .returned (.bool true) ∧ w' = w) := fun w => by have := W.same_walk (W.fltB (grt x y)) (W.fltB (grt x y)) w; rw [same_refl] at this; exact this
  have HS2 := hide (fun (w : World) => W.same_walk (W.fltB (grt x y)) x w)
  have HS3 := hide (fun (w : World) => W.same_walk (W.fltB (grt x y)) y w)
  have hor : W.sameB (W.fltB (grt x y)) x = true ∨ W.sameB (W.fltB (grt x y)) y = true := by
    unfold grt
    split
    · exact .inr (same_flt y)
    · exact .inl (same_flt x)
  have HKI := hide kInf
  have HKN := hide kNaN
  have HKC := hide kCopy
  have HRI := hide (fun (w : World) => kReal 9218868437227405312 (by decide) w)
  have HRN := hide (fun (w : World) => kReal 9221120237041090561 (by decide) w)
  have HR0 := hide (fun (w : World) => kReal 0 (by decide) w)
  have HRM := hide (fun (w : World) => kReal 9223372036854775808 (by decide) w)
  have HBI := hide (fun (w : World) => kBelow _ _ _ _ (jo_r (x := 9218868437227405312) (y := 9221120237041090561) (by decide) (by decide)) true (by rw [told_rr (by decide) (by decide)]; decide) w)
  have HB0 := hide (fun (w : World) => kBelow _ _ _ _ (jo_r (x := 0) (y := 9223372036854775808) (by decide) (by decide)) false (by rw [told_rr (by decide) (by decide)]; decide) w)
  generalize tS (rT 9218868437227405312) = SI1 at *
  generalize tS (rT 9221120237041090561) = SN at *
  generalize tS (rT 0) = S0 at *
  generalize tS (rT 9223372036854775808) = SM at *
  generalize tS (rT (grt x y)) = TJ at *
  generalize tS (cT (grt x y) (grt y x)) = SJ at *
  generalize tS (rT x) = RX at *
  generalize tS (rT y) = RY at *
  generalize tS (cT x y) = CX at *
  generalize tS (cT y x) = CY at *
  generalize W.sameB (W.fltB (grt x y)) x = b1 at *
  generalize W.sameB (W.fltB (grt x y)) y = b2 at *
  generalize W.fltB (grt x y) = fz at *
  generalize decide (rk y < rk x) = ab at *
  generalize decide (rk x < rk y) = ba at *
  clear hx hy hz hz' hzz
  have HB : Hid (Below u.heap.size u u) := Below.refl _ _
  have HOR := hide hor
  clear hor
  cases b1 with
  | true =>
    clear HOR
    cases ab <;> cases ba
    all_goals
      go_enter Try.func9, Try.ntmps9
      go_wp2_with (first
          | (go_at_call 28; (with_reducible refine (unhide HR1 _).mono ?_); rintro e Wn ⟨rfl, hb⟩; replace HB := hide (Below.trans (unhide HB) (hb.mono (unhide HB).size)); clear hb)
          | (go_at_call 28; (with_reducible refine (unhide HR2 _).mono ?_); rintro e Wn ⟨rfl, hb⟩; replace HB := hide (Below.trans (unhide HB) (hb.mono (unhide HB).size)); clear hb)
          | (go_at_call 28; (with_reducible refine (unhide HRI _).mono ?_); rintro e Wn ⟨rfl, hb⟩; replace HB := hide (Below.trans (unhide HB) (hb.mono (unhide HB).size)); clear hb)
          | (go_at_call 28; (with_reducible refine (unhide HRN _).mono ?_); rintro e Wn ⟨rfl, hb⟩; replace HB := hide (Below.trans (unhide HB) (hb.mono (unhide HB).size)); clear hb)
          | (go_at_call 28; (with_reducible refine (unhide HR0 _).mono ?_); rintro e Wn ⟨rfl, hb⟩; replace HB := hide (Below.trans (unhide HB) (hb.mono (unhide HB).size)); clear hb)
          | (go_at_call 28; (with_reducible refine (unhide HRM _).mono ?_); rintro e Wn ⟨rfl, hb⟩; replace HB := hide (Below.trans (unhide HB) (hb.mono (unhide HB).size)); clear hb)
          | (go_at_call 29; (with_reducible refine (unhide HC1 _).mono ?_); rintro e Wn ⟨rfl, hb⟩; replace HB := hide (Below.trans (unhide HB) (hb.mono (unhide HB).size)); clear hb)
          | (go_at_call 29; (with_reducible refine (unhide HC2 _).mono ?_); rintro e Wn ⟨rfl, hb⟩; replace HB := hide (Below.trans (unhide HB) (hb.mono (unhide HB).size)); clear hb)
          | (go_at_call 15; (with_reducible refine (unhide HB1 _).mono ?_); rintro e Wn ⟨rfl, hb⟩; replace HB := hide (Below.trans (unhide HB) (hb.mono (unhide HB).size)); clear hb)
          | (go_at_call 15; (with_reducible refine (unhide HB2 _).mono ?_); rintro e Wn ⟨rfl, hb⟩; replace HB := hide (Below.trans (unhide HB) (hb.mono (unhide HB).size)); clear hb)
          | (go_at_call 15; (with_reducible refine (unhide HB3 _).mono ?_); rintro e Wn ⟨rfl, hb⟩; replace HB := hide (Below.trans (unhide HB) (hb.mono (unhide HB).size)); clear hb)
          | (go_at_call 15; (with_reducible refine (unhide HBI _).mono ?_); rintro e Wn ⟨rfl, hb⟩; replace HB := hide (Below.trans (unhide HB) (hb.mono (unhide HB).size)); clear hb)
          | (go_at_call 15; (with_reducible refine (unhide HB0 _).mono ?_); rintro e Wn ⟨rfl, hb⟩; replace HB := hide (Below.trans (unhide HB) (hb.mono (unhide HB).size)); clear hb)
          | (go_at_call 11; (with_reducible refine (unhide HJ1 _).mono ?_); rintro e Wn ⟨rfl, hb⟩; replace HB := hide (Below.trans (unhide HB) (hb.mono (unhide HB).size)); clear hb)
          | (go_at_call 11; (with_reducible refine (unhide HJ2 _).mono ?_); rintro e Wn ⟨rfl, hb⟩; replace HB := hide (Below.trans (unhide HB) (hb.mono (unhide HB).size)); clear hb)
          | (go_at_call 20; (with_reducible refine (unhide HAR _).mono ?_); rintro e Wn ⟨rfl, hb⟩; replace HB := hide (Below.trans (unhide HB) (hb.mono (unhide HB).size)); clear hb)
          | (go_at_call 21; (with_reducible refine (unhide HAC _).mono ?_); rintro e Wn ⟨rfl, hb⟩; replace HB := hide (Below.trans (unhide HB) (hb.mono (unhide HB).size)); clear hb)
          | (go_at_call 36; (with_reducible refine (unhide HA1 _).mono ?_); rintro e Wn ⟨rfl, hw⟩; subst hw)
          | (go_at_call 36; (with_reducible refine (unhide HA2 _).mono ?_); rintro e Wn ⟨rfl, hw⟩; subst hw)
          | (go_at_call 25; (with_reducible refine (unhide HS1 _).mono ?_); rintro e Wn ⟨rfl, hw⟩; subst hw)
          | (go_at_call 25; (with_reducible refine (unhide HS2 _).mono ?_); rintro e Wn ⟨rfl, hw⟩; subst hw)
          | (go_at_call 25; (with_reducible refine (unhide HS3 _).mono ?_); rintro e Wn ⟨rfl, hw⟩; subst hw)
          | (go_at_call 37; (with_reducible refine (unhide HKI _).mono ?_); rintro e Wn ⟨rfl, hw⟩; subst hw)
          | (go_at_call 38; (with_reducible refine (unhide HKN _).mono ?_); rintro e Wn ⟨rfl, hw⟩; subst hw)
          | (go_at_call 39; (with_reducible refine (unhide HKC _).mono ?_); rintro e Wn ⟨rfl, hw⟩; subst hw)
          | fail)
      go_ret
      exact ⟨rfl, unhide HB⟩
  | false =>
    obtain rfl : b2 = true := by have h := unhide HOR; simpa using h
    clear HOR
    cases ab <;> cases ba
    all_goals
      go_enter Try.func9, Try.ntmps9
      go_wp2_with (first
          | (go_at_call 28; (with_reducible refine (unhide HR1 _).mono ?_); rintro e Wn ⟨rfl, hb⟩; replace HB := hide (Below.trans (unhide HB) (hb.mono (unhide HB).size)); clear hb)
          | (go_at_call 28; (with_reducible refine (unhide HR2 _).mono ?_); rintro e Wn ⟨rfl, hb⟩; replace HB := hide (Below.trans (unhide HB) (hb.mono (unhide HB).size)); clear hb)
          | (go_at_call 28; (with_reducible refine (unhide HRI _).mono ?_); rintro e Wn ⟨rfl, hb⟩; replace HB := hide (Below.trans (unhide HB) (hb.mono (unhide HB).size)); clear hb)
          | (go_at_call 28; (with_reducible refine (unhide HRN _).mono ?_); rintro e Wn ⟨rfl, hb⟩; replace HB := hide (Below.trans (unhide HB) (hb.mono (unhide HB).size)); clear hb)
          | (go_at_call 28; (with_reducible refine (unhide HR0 _).mono ?_); rintro e Wn ⟨rfl, hb⟩; replace HB := hide (Below.trans (unhide HB) (hb.mono (unhide HB).size)); clear hb)
          | (go_at_call 28; (with_reducible refine (unhide HRM _).mono ?_); rintro e Wn ⟨rfl, hb⟩; replace HB := hide (Below.trans (unhide HB) (hb.mono (unhide HB).size)); clear hb)
          | (go_at_call 29; (with_reducible refine (unhide HC1 _).mono ?_); rintro e Wn ⟨rfl, hb⟩; replace HB := hide (Below.trans (unhide HB) (hb.mono (unhide HB).size)); clear hb)
          | (go_at_call 29; (with_reducible refine (unhide HC2 _).mono ?_); rintro e Wn ⟨rfl, hb⟩; replace HB := hide (Below.trans (unhide HB) (hb.mono (unhide HB).size)); clear hb)
          | (go_at_call 15; (with_reducible refine (unhide HB1 _).mono ?_); rintro e Wn ⟨rfl, hb⟩; replace HB := hide (Below.trans (unhide HB) (hb.mono (unhide HB).size)); clear hb)
          | (go_at_call 15; (with_reducible refine (unhide HB2 _).mono ?_); rintro e Wn ⟨rfl, hb⟩; replace HB := hide (Below.trans (unhide HB) (hb.mono (unhide HB).size)); clear hb)
          | (go_at_call 15; (with_reducible refine (unhide HB3 _).mono ?_); rintro e Wn ⟨rfl, hb⟩; replace HB := hide (Below.trans (unhide HB) (hb.mono (unhide HB).size)); clear hb)
          | (go_at_call 15; (with_reducible refine (unhide HBI _).mono ?_); rintro e Wn ⟨rfl, hb⟩; replace HB := hide (Below.trans (unhide HB) (hb.mono (unhide HB).size)); clear hb)
          | (go_at_call 15; (with_reducible refine (unhide HB0 _).mono ?_); rintro e Wn ⟨rfl, hb⟩; replace HB := hide (Below.trans (unhide HB) (hb.mono (unhide HB).size)); clear hb)
          | (go_at_call 11; (with_reducible refine (unhide HJ1 _).mono ?_); rintro e Wn ⟨rfl, hb⟩; replace HB := hide (Below.trans (unhide HB) (hb.mono (unhide HB).size)); clear hb)
          | (go_at_call 11; (with_reducible refine (unhide HJ2 _).mono ?_); rintro e Wn ⟨rfl, hb⟩; replace HB := hide (Below.trans (unhide HB) (hb.mono (unhide HB).size)); clear hb)
          | (go_at_call 20; (with_reducible refine (unhide HAR _).mono ?_); rintro e Wn ⟨rfl, hb⟩; replace HB := hide (Below.trans (unhide HB) (hb.mono (unhide HB).size)); clear hb)
          | (go_at_call 21; (with_reducible refine (unhide HAC _).mono ?_); rintro e Wn ⟨rfl, hb⟩; replace HB := hide (Below.trans (unhide HB) (hb.mono (unhide HB).size)); clear hb)
          | (go_at_call 36; (with_reducible refine (unhide HA1 _).mono ?_); rintro e Wn ⟨rfl, hw⟩; subst hw)
          | (go_at_call 36; (with_reducible refine (unhide HA2 _).mono ?_); rintro e Wn ⟨rfl, hw⟩; subst hw)
          | (go_at_call 25; (with_reducible refine (unhide HS1 _).mono ?_); rintro e Wn ⟨rfl, hw⟩; subst hw)
          | (go_at_call 25; (with_reducible refine (unhide HS2 _).mono ?_); rintro e Wn ⟨rfl, hw⟩; subst hw)
          | (go_at_call 25; (with_reducible refine (unhide HS3 _).mono ?_); rintro e Wn ⟨rfl, hw⟩; subst hw)
          | (go_at_call 37; (with_reducible refine (unhide HKI _).mono ?_); rintro e Wn ⟨rfl, hw⟩; subst hw)
          | (go_at_call 38; (with_reducible refine (unhide HKN _).mono ?_); rintro e Wn ⟨rfl, hw⟩; subst hw)
          | (go_at_call 39; (with_reducible refine (unhide HKC _).mono ?_); rintro e Wn ⟨rfl, hw⟩; subst hw)
          | fail)
      go_ret
      exact ⟨rfl, unhide HB⟩
theorem order12_any (a b : Int) (ha : 0 ≤ a ∧ a ≤ 18446744073709551615) (hb : 0 ≤ b ∧ b ≤ 18446744073709551615) (u : World) : Calls Try.prog 9 #[.int .u64 a, .int .u64 b] u fun e u' => e = .returned (.bool true) ∧ Below u.heap.size u u' := by
  obtain ⟨x, rfl⟩ := Int.eq_ofNat_of_zero_le ha.1
  obtain ⟨y, rfl⟩ := Int.eq_ofNat_of_zero_le hb.1
  exact order12_walk x y (by omega) (by omega) u
end Go.Proofs.Ytpepgealeanecaa
