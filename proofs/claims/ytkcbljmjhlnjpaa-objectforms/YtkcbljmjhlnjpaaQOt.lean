/- ObjectForms: the walk (written by mkot.py). -/
import Derived.Test.YtkcbljmjhlnjpaaQOs
namespace Go.Proofs.Ytkcbljmjhlnjpaa
open Go.RowKit Go.Lib
section
variable {P : Program} {ops : Array Oper} {Q : Exit → Act → World → Prop} {md : Region.Mode} {S : World → Prop} {last : Nat}
/-- take number i first, which is not wanted -/
theorem wpAnyL_skip (i : Nat) (d : Tmp) (r : List Nat) {oi : Oper} {fuel : Nat} {listed : Array Bool} {a : Act} {w : World} (hi : ops[i]? = some oi) (hd : oi.dst = some d)
    (hs : Region.noSelect ops = true) (hf : Region.free md ops listed i = true) (hr : (Region.ready md ops listed).contains i = true) (hc : chained md ops last i r = true) (hu : (r.all fun y => !listed.getD y true) = true)
    (hQ : ∀ c a w, Q (.panic c) (a.put (some d) undef) w → Q (.panic c) a w) (hg : Region.wanted oi (yielded ops a.tmps) = false) (hS : S w)
    (h : wpAnyL P md ops Q S last fuel (listed.setIfInBounds i true) (a.put (some d) undef) w) : wpAnyL P md ops Q S last (fuel + 1) listed a w := by
  have hu' : unlisted listed r := by
    clear hc
    induction r with
    | nil => trivial
    | cons y r ih =>
      simp only [List.all_cons, Bool.and_eq_true, Bool.not_eq_true'] at hu
      exact ⟨hu.1, ih hu.2⟩
  exact wpAnyL_first hi (Region.noSelect_spec hs) (by rw [hd]; exact hQ) r hc fuel listed a w hu' (Region.free_spec hi hf) (by simpa using hr) (.inr ⟨hg, rfl⟩) hS (by rw [hd]; exact h)
end
/- mathematics -/
theorem text_app_inj {k l : ByteArray} {r t : List UInt8} (hk : k.size ≤ 40) (hl : l.size ≤ 40) (h : textB k ++ r = textB l ++ t) : k = l ∧ r = t := by
  have h1 := text_fwd (s := ⟨(textB k ++ r).toArray⟩) (p := 0) (v := k) (t := r) (by simp) hk
  have h2 := text_fwd (s := ⟨(textB k ++ r).toArray⟩) (p := 0) (v := l) (t := t) (by simp [h]) hl
  rw [h1] at h2
  obtain ⟨rfl, -⟩ := Prod.mk.inj h2
  exact ⟨rfl, List.append_cancel_left h⟩
theorem st_inj {s t : St} (hs : SOk s) (ht : SOk t) (fs : FitT s) (ft : FitT t) (h : stB s = stB t) : s = t := by
  have h1 := decT_enc hs fs
  have h2 := decT_enc ht ft
  rw [h] at h1
  rw [h1] at h2
  exact (Prod.mk.inj h2).1
theorem form_none {a : Ot} : a.st.seen.length = 0 → formB a = ⟨#[]⟩ := fun h => by unfold formB; rw [if_pos h]; rfl
theorem form_some {a : Ot} (h : a.st.seen.length ≠ 0) : (formB a).toList = 79 :: (textB a.key ++ stB a.st) := by
  unfold formB
  rw [if_neg h, ByteArray.toList_eq]
theorem form_nil {a : Ot} (h : a.st.seen.length ≠ 0) : ((formB a).toList == []) = false := by rw [form_some h]; rfl
theorem form_eq {a b : Ot} (ha : ckE a = 0) (hb : ckE b = 0) (fa : FitT a.st) (fb : FitT b.st) (h0 : a.st.seen.length ≠ 0) : ((formB a).toList == (formB b).toList) = sameO a b := by
  rw [Bool.eq_iff_iff, beq_iff_eq, sameO_iff]
  constructor
  · intro h
    by_cases h1 : b.st.seen.length = 0
    · rw [form_some h0, form_none h1, ByteArray.toList_eq] at h
      cases h
    · rw [form_some h0, form_some h1] at h
      obtain ⟨hk, hs⟩ := text_app_inj (by have := (ck_zero.1 ha).1.2; omega) (by have := (ck_zero.1 hb).1.2; omega) (List.cons.inj h).2
      have := st_inj (ck_zero.1 ha).2.1 (ck_zero.1 hb).2.1 fa fb hs
      obtain ⟨k, s⟩ := a
      obtain ⟨l, t⟩ := b
      simp only at hk this
      rw [hk, this]
  · intro h; rw [h]
theorem same_two (a b : Ot) : sameO a b = (decide (a.key = b.key) && sameB a.st b.st) := by
  rw [Bool.eq_iff_iff, sameO_iff, Bool.and_eq_true, decide_eq_true_iff, sameB_iff]
  obtain ⟨k, s⟩ := a
  obtain ⟨l, t⟩ := b
  simp
theorem sum_err {a : Ot} (ha : ckE a = 0) (n : Int) : (1 ≤ n ∧ n ≤ 32 ∧ (sumV a n).2 = 0) ∨ (¬ 1 ≤ n ∧ (sumV a n).2 = 1) ∨ (1 ≤ n ∧ ¬ n ≤ 32 ∧ (sumV a n).2 = 1) := by
  have h : (sumV a n).2 = if 1 ≤ n ∧ n ≤ 32 then 0 else 1 := by
    unfold sumV
    rw [if_pos ha]
    by_cases h0 : a.st.seen.length = 0
    · rw [if_pos h0]
      show (cutR eB n).2 = _
      unfold cutR
      split <;> rfl
    · rw [if_neg h0]
      unfold cutR
      split <;> rfl
  by_cases h1 : 1 ≤ n
  · by_cases h2 : n ≤ 32
    · exact .inl ⟨h1, h2, by rw [h, if_pos ⟨h1, h2⟩]⟩
    · exact .inr (.inr ⟨h1, h2, by rw [h, if_neg (fun q => h2 q.2)]⟩)
  · exact .inr (.inl ⟨h1, by rw [h, if_neg (fun q => h1 q.1)]⟩)
theorem mn_ex (x y : Int) : ∃ n : Int, ∀ (ts : Array TypeId) (t : TypeId) (W : World), (Builtin.min_ ts t #[.int .i64 x, .int .i64 y]).run Try.prog W = .ok (.int .i64 n) W := ⟨_, fun ts t W => run_min_int2 W ts t .i64 .i64 x y⟩
theorem sum_front {a : Ot} (ha : ckE a = 0) (h0 : a.st.seen.length ≠ 0) {one two : Int} (h1 : 1 ≤ one ∧ one ≤ 32) (h2 : 1 ≤ two ∧ two ≤ 32) :
    one = ((sumV a one).1.size : Int) ∧ two = ((sumV a two).1.size : Int) ∧ ∃ nn : Nat, nn ≤ (sumV a one).1.size ∧ nn ≤ (sumV a two).1.size ∧ (((sumV a one).1.extract 0 nn).toList == ((sumV a two).1.extract 0 nn).toList) = true ∧ (if two < one then two else one) = (nn : Int) := by
  obtain ⟨i, rfl⟩ := Int.eq_ofNat_of_zero_le (by omega : 0 ≤ one)
  obtain ⟨j, rfl⟩ := Int.eq_ofNat_of_zero_le (by omega : 0 ≤ two)
  have e1 : (sumV a (i : Int)).1 = D.cutS (formB a) i := by unfold sumV cutR; rw [if_pos ha, if_neg h0, if_pos h1]; rfl
  have e2 : (sumV a (j : Int)).1 = D.cutS (formB a) j := by unfold sumV cutR; rw [if_pos ha, if_neg h0, if_pos h2]; rfl
  have s1 := D.cutS_size (formB a) i (by omega)
  have s2 := D.cutS_size (formB a) j (by omega)
  rw [e1, e2, s1, s2]
  refine ⟨rfl, rfl, ?_⟩
  by_cases h : j < i
  · refine ⟨j, by omega, Nat.le_refl _, ?_, by rw [if_pos (by omega)]⟩
    rw [D.cutS_front _ _ _ (by omega : j ≤ i), D.cutS_front _ _ _ (Nat.le_refl j)]; simp
  · refine ⟨i, Nat.le_refl _, by omega, ?_, by rw [if_neg (by omega)]⟩
    rw [D.cutS_front _ _ _ (Nat.le_refl i), D.cutS_front _ _ _ (by omega : i ≤ j)]; simp
set_option maxRecDepth 100000 in
set_option maxHeartbeats 16000000 in
theorem forms13_walk (a b : Ot) (va vb : Sv) (one two : Int) (u : World) (ha : SAt u a.st va) (hb : SAt u b.st vb) : Calls Try.prog 8 #[obV a.key va a.st.seen.length a.st.sibs.length, obV b.key vb b.st.seen.length b.st.sibs.length, .int .i64 one, .int .i64 two] u fun e u' => e = .returned (.bool true) ∧ Below u.heap.size u u' := by
  have hmix : Try.prog.follows .mixedOrders = true := by kernel_rfl
  obtain ⟨N, hN⟩ : ∃ N, N = u.heap.size := ⟨_, rfl⟩
  have HN := hide hN
  obtain ⟨na, hna⟩ : ∃ n, n = a.st.seen.length := ⟨_, rfl⟩
  obtain ⟨ma, hma⟩ : ∃ n, n = a.st.sibs.length := ⟨_, rfl⟩
  obtain ⟨nb, hnb⟩ : ∃ n, n = b.st.seen.length := ⟨_, rfl⟩
  obtain ⟨mb, hmb⟩ : ∃ n, n = b.st.sibs.length := ⟨_, rfl⟩
  have HSA : Hid (Sx u a.st va na ma) := ⟨ha, hna, hma⟩
  have HSB : Hid (Sx u b.st vb nb mb) := ⟨hb, hnb, hmb⟩
  have HNA := hide hna
  have HNB := hide hnb
  have HFTA := hide ha.fit
  have HFTB := hide hb.fit
  rw [← hna, ← hma, ← hnb, ← hmb, ← hN]
  clear hN hna hma hnb hmb ha hb
  have HU : Hid (∀ W : World, Below N u W → Below u.heap.size u W) := fun W hW => by rw [← unhide HN]; exact hW
  obtain ⟨⟨x, e⟩, hx⟩ : ∃ p, formV a = p := ⟨_, rfl⟩
  obtain ⟨⟨y, f⟩, hy⟩ : ∃ p, formV b = p := ⟨_, rfl⟩
  have hce : ckE a = e ∧ (e = 0 → x = formB a) ∧ (e ≠ 0 → x = ⟨#[]⟩) := by
    unfold formV at hx
    by_cases h : ckE a = 0
    · rw [if_pos h] at hx; cases hx; exact ⟨h, fun _ => rfl, fun q => absurd rfl q⟩
    · rw [if_neg h] at hx; obtain ⟨h1, h2⟩ := Prod.mk.inj hx; exact ⟨h2, fun q => absurd (h2.trans q) h, fun _ => h1.symm⟩
  have hcf : ckE b = f ∧ (f = 0 → y = formB b) := by
    unfold formV at hy
    by_cases h : ckE b = 0
    · rw [if_pos h] at hy; cases hy; exact ⟨h, fun _ => rfl⟩
    · rw [if_neg h] at hy; obtain ⟨h1, h2⟩ := Prod.mk.inj hy; exact ⟨h2, fun q => absurd (h2.trans q) h⟩
  have HFA := hide hx
  have HFB := hide hy
  have HCA := hide hce.1
  have HCB := hide hcf.1
  have HEA := hide hce
  have HEB := hide hcf
  clear hx hy hce hcf
  go_enter Try.func8, Try.ntmps8
  go_upto_region 7 with (first
    | ((with_reducible refine wpList_box_ob (by rfl) (.tmp 0) (by rfl) (some 4) (by rfl) (N) (unhide HN) a.key va na ma (by with_unfolding_all rfl) ?_); intro B1 HY1 HA1 HZ1; simp only [Act.put, List.setIfInBounds_toArray, List.set_cons_zero, List.set_cons_succ])
    | ((with_reducible refine wpList_box_ob (by rfl) (.tmp 1) (by rfl) (some 5) (by rfl) (N + 1) (unhide HZ1).symm b.key vb nb mb (by with_unfolding_all rfl) ?_); intro B2 HY2 HA2 HZ2; simp only [Act.put, List.setIfInBounds_toArray, List.set_cons_zero, List.set_cons_succ]; have HBU : Hid (Below N u B2) := (unhide HA1).trans ((unhide HA2).mono (by omega)); have HLA : Hid (Lo B2 (N) a va na ma) := ⟨(unhide HSA).below (unhide HU _ (unhide HBU)), ((unhide HA2).block (N) (by omega)).trans (unhide HY1)⟩; have HLB : Hid (Lo B2 (N + 1) b vb nb mb) := ⟨(unhide HSB).below (unhide HU _ (unhide HBU)), unhide HY2⟩; have HNW : Hid (N ≤ B2.heap.size) := (by show N ≤ B2.heap.size; rw [unhide HZ2]; omega); clear HY1 HA1 HZ1 HY2 HA2 HZ2)
    | (go_at_call 27; refine (lWorks B2).mono ?_; rintro e U1 ⟨rfl, hb⟩; replace HLA := hide ((unhide HLA).below hb); replace HLB := hide ((unhide HLB).below hb); replace HBU : Hid (Below N u U1) := (unhide HBU).trans (hb.mono (unhide HNW)); replace HNW : Hid (N ≤ U1.heap.size) := Nat.le_trans (unhide HNW) hb.size; clear hb; obtain ⟨c0A, c1A, c2A⟩ := (unhide HLA).cells; obtain ⟨c0B, c1B, c2B⟩ := (unhide HLB).cells; )
    | (go_at_call 13; refine (kTwin U1 (unhide HLA).toSx).mono ?_; rintro e U2 ⟨x1, rfl, hs, hb⟩; clear c0A c1A c2A c0B c1B c2B; replace HLA := hide ((unhide HLA).below hb); replace HLB := hide ((unhide HLB).below hb); replace HBU : Hid (Below N u U2) := (unhide HBU).trans (hb.mono (unhide HNW)); replace HNW : Hid (N ≤ U2.heap.size) := Nat.le_trans (unhide HNW) hb.size; have HT := hide hs; clear hs; clear hb; obtain ⟨c0A, c1A, c2A⟩ := (unhide HLA).cells; obtain ⟨c0B, c1B, c2B⟩ := (unhide HLB).cells; )
    | (go_at_call 31; refine (oForm (o := a) (unhide HT) _ _ (unhide HFA)).mono ?_; rintro e U3 ⟨rfl, hb⟩; clear c0A c1A c2A c0B c1B c2B; replace HLA := hide ((unhide HLA).below hb); replace HLB := hide ((unhide HLB).below hb); replace HT := hide ((unhide HT).below hb); replace HBU : Hid (Below N u U3) := (unhide HBU).trans (hb.mono (unhide HNW)); replace HNW : Hid (N ≤ U3.heap.size) := Nat.le_trans (unhide HNW) hb.size; clear HT; clear HFA; clear hb; obtain ⟨c0A, c1A, c2A⟩ := (unhide HLA).cells; obtain ⟨c0B, c1B, c2B⟩ := (unhide HLB).cells; )
    | (go_at_call 13; refine (kTwin U3 (unhide HLB).toSx).mono ?_; rintro e U4 ⟨x2, rfl, hs, hb⟩; clear c0A c1A c2A c0B c1B c2B; replace HLA := hide ((unhide HLA).below hb); replace HLB := hide ((unhide HLB).below hb); replace HBU : Hid (Below N u U4) := (unhide HBU).trans (hb.mono (unhide HNW)); replace HNW : Hid (N ≤ U4.heap.size) := Nat.le_trans (unhide HNW) hb.size; have HT := hide hs; clear hs; clear hb; obtain ⟨c0A, c1A, c2A⟩ := (unhide HLA).cells; obtain ⟨c0B, c1B, c2B⟩ := (unhide HLB).cells; )
    | (go_at_call 31; refine (oForm (o := b) (unhide HT) _ _ (unhide HFB)).mono ?_; rintro e U5 ⟨rfl, hb⟩; clear c0A c1A c2A c0B c1B c2B; replace HLA := hide ((unhide HLA).below hb); replace HLB := hide ((unhide HLB).below hb); replace HT := hide ((unhide HT).below hb); replace HBU : Hid (Below N u U5) := (unhide HBU).trans (hb.mono (unhide HNW)); replace HNW : Hid (N ≤ U5.heap.size) := Nat.le_trans (unhide HNW) hb.size; clear HT; clear HFB; clear hb; obtain ⟨c0A, c1A, c2A⟩ := (unhide HLA).cells; obtain ⟨c0B, c1B, c2B⟩ := (unhide HLB).cells; )
    | (go_at_call 13; refine (kTwin U5 (unhide HLA).toSx).mono ?_; rintro e U6 ⟨x3, rfl, hs, hb⟩; clear c0A c1A c2A c0B c1B c2B; replace HLA := hide ((unhide HLA).below hb); replace HLB := hide ((unhide HLB).below hb); replace HBU : Hid (Below N u U6) := (unhide HBU).trans (hb.mono (unhide HNW)); replace HNW : Hid (N ≤ U6.heap.size) := Nat.le_trans (unhide HNW) hb.size; have HT := hide hs; clear hs; clear hb; obtain ⟨c0A, c1A, c2A⟩ := (unhide HLA).cells; obtain ⟨c0B, c1B, c2B⟩ := (unhide HLB).cells; )
    | (go_at_call 30; refine (oCheck (o := a) (unhide HT) _ (unhide HCA)).mono ?_; rintro e U7 ⟨rfl, hb⟩; clear c0A c1A c2A c0B c1B c2B; replace HLA := hide ((unhide HLA).below hb); replace HLB := hide ((unhide HLB).below hb); replace HT := hide ((unhide HT).below hb); replace HBU : Hid (Below N u U7) := (unhide HBU).trans (hb.mono (unhide HNW)); replace HNW : Hid (N ≤ U7.heap.size) := Nat.le_trans (unhide HNW) hb.size; clear HT; clear HCA; clear hb; obtain ⟨c0A, c1A, c2A⟩ := (unhide HLA).cells; obtain ⟨c0B, c1B, c2B⟩ := (unhide HLB).cells; )
    | (go_at_call 13; refine (kTwin U7 (unhide HLB).toSx).mono ?_; rintro e U8 ⟨x4, rfl, hs, hb⟩; clear c0A c1A c2A c0B c1B c2B; replace HLA := hide ((unhide HLA).below hb); replace HLB := hide ((unhide HLB).below hb); replace HBU : Hid (Below N u U8) := (unhide HBU).trans (hb.mono (unhide HNW)); replace HNW : Hid (N ≤ U8.heap.size) := Nat.le_trans (unhide HNW) hb.size; have HT := hide hs; clear hs; clear hb; obtain ⟨c0A, c1A, c2A⟩ := (unhide HLA).cells; obtain ⟨c0B, c1B, c2B⟩ := (unhide HLB).cells; )
    | (go_at_call 30; refine (oCheck (o := b) (unhide HT) _ (unhide HCB)).mono ?_; rintro e U9 ⟨rfl, hb⟩; clear c0A c1A c2A c0B c1B c2B; replace HLA := hide ((unhide HLA).below hb); replace HLB := hide ((unhide HLB).below hb); replace HT := hide ((unhide HT).below hb); replace HBU : Hid (Below N u U9) := (unhide HBU).trans (hb.mono (unhide HNW)); replace HNW : Hid (N ≤ U9.heap.size) := Nat.le_trans (unhide HNW) hb.size; clear HT; clear HCB; clear hb; obtain ⟨c0A, c1A, c2A⟩ := (unhide HLA).cells; obtain ⟨c0B, c1B, c2B⟩ := (unhide HLB).cells; )
    | fail)
  by_cases he : e = 0
  · by_cases hf : f = 0
    · have hxa := (unhide HEA).2.1 he
      have hyb := (unhide HEB).2 hf
      have hca : ckE a = 0 := (unhide HEA).1.trans he
      have hcb : ckE b = 0 := (unhide HEB).1.trans hf
      subst he hf
      clear HEA HEB
      obtain ⟨sm, hsm⟩ : ∃ s, sameO a b = s := ⟨_, rfl⟩
      have HSM := hide hsm
      have HSO : Hid (sm = (decide (a.key = b.key) && sameB a.st b.st)) := by rw [← hsm]; exact same_two a b
      obtain ⟨⟨s, g⟩, hsg⟩ : ∃ p, sumV a one = p := ⟨_, rfl⟩
      obtain ⟨⟨t, h⟩, hth⟩ : ∃ p, sumV a two = p := ⟨_, rfl⟩
      have HG1 := hide hsg
      have HG2 := hide hth
      have HC1 := hide (sum_err hca one)
      have HC2 := hide (sum_err hca two)
      rw [hsg] at HC1
      rw [hth] at HC2
      have hyy : (y.toList == []) = decide (nb = 0) := by
        by_cases hb0 : nb = 0
        · rw [hyb, form_none ((unhide HNB).symm.trans hb0), decide_eq_true hb0, ByteArray.toList_eq]; rfl
        · rw [hyb, form_nil (fun q => hb0 ((unhide HNB).trans q)), decide_eq_false hb0]
      have hnb2 : ((nb : Int) == 0) = decide (nb = 0) := by
        by_cases hb0 : nb = 0
        · subst hb0; rfl
        · rw [decide_eq_false hb0]; exact beq_eq_false_iff_ne.2 (by omega)
      obtain ⟨yb, hyb2⟩ : ∃ q, q = decide (nb = 0) := ⟨_, rfl⟩
      rw [← hyb2] at hyy hnb2
      have hyyy : (yb != yb) = false := by simp
      have hsmm : (sm != sm) = false := by simp
      by_cases h0 : na = 0
      · have hx0 : x = ⟨#[]⟩ := hxa.trans (form_none ((unhide HNA).symm.trans h0))
        have hz := (unhide HNA).symm.trans h0
        have HE : Hid ((1 ≤ one ∧ one ≤ 32) → (1 ≤ two ∧ two ≤ 32) → s = ⟨#[]⟩ ∧ t = ⟨#[]⟩) := fun _ _ => by
          have e1 : sumV a one = (eB, (cutR eB one).2) := by unfold sumV; rw [if_pos hca, if_pos hz]
          have e2 : sumV a two = (eB, (cutR eB two).2) := by unfold sumV; rw [if_pos hca, if_pos hz]
          rw [hsg] at e1
          rw [hth] at e2
          exact ⟨(Prod.mk.inj e1).1, (Prod.mk.inj e2).1⟩
        have hna2 : ((na : Int) == 0) = true := by rw [h0]; rfl
        subst hx0
        clear hxa hca hcb hsm hsg hth hyb2 hz h0 hyb
        go_wp2_with fail
        refine wp_region_last (fun V => Below U9.heap.size U9 V) 41 hmix (belowDrew (Below.refl _ _)) fun hS => ?_
        generalize U9.drew = Z0 at hS ⊢
        refine wpAnyL_take 0 56 (.string ⟨#[]⟩) [1, 7, 8, 18, 30, 31] rfl rfl (by kernel_rfl) (by kernel_rfl) (by kernel_rfl) (by kernel_rfl) (by kernel_rfl) (fun _ _ _ h => h) (by rfl) (fun _ _ => by go_simp) hS ?_
        simp only [Act.put, List.setIfInBounds_toArray, List.set_cons_zero, List.set_cons_succ]
        refine wpAnyL_take 1 57 (.bool true) [7, 8, 18, 30, 31] rfl rfl (by kernel_rfl) (by kernel_rfl) (by kernel_rfl) (by kernel_rfl) (by kernel_rfl) (fun _ _ _ h => h) (by rfl) (fun _ _ => by go_simp) hS ?_
        simp only [Act.put, List.setIfInBounds_toArray, List.set_cons_zero, List.set_cons_succ]
        refine wpAnyL_take 2 58 (.pointer (some ⟨N, 1, none⟩)) [3, 4, 5, 6, 7, 8, 18, 30, 31] rfl rfl (by kernel_rfl) (by kernel_rfl) (by kernel_rfl) (by kernel_rfl) (by kernel_rfl) (fun _ _ _ h => h) (by rfl) (fun _ _ => by go_simp) hS ?_
        simp only [Act.put, List.setIfInBounds_toArray, List.set_cons_zero, List.set_cons_succ]
        refine wpAnyL_take 3 59 (.pointer (some ⟨N, 1, none⟩)) [4, 5, 6, 7, 8, 18, 30, 31] rfl rfl (by kernel_rfl) (by kernel_rfl) (by kernel_rfl) (by kernel_rfl) (by kernel_rfl) (fun _ _ _ h => h) (by rfl) (fun _ _ => by go_simp) hS ?_
        simp only [Act.put, List.setIfInBounds_toArray, List.set_cons_zero, List.set_cons_succ]
        refine wpAnyL_take 4 60 (.slice va.sa na va.sc) [5, 6, 7, 8, 18, 30, 31] rfl rfl (by kernel_rfl) (by kernel_rfl) (by kernel_rfl) (by kernel_rfl) (by kernel_rfl) (fun _ _ _ h => h) (by rfl) (fun V hV => by obtain ⟨c0, c1, c2⟩ := ((unhide HLA).below hV).cells; go_simp) hS ?_
        simp only [Act.put, List.setIfInBounds_toArray, List.set_cons_zero, List.set_cons_succ]
        refine wpAnyL_take 5 61 (.int .i64 (na : Int)) [6, 7, 8, 18, 30, 31] rfl rfl (by kernel_rfl) (by kernel_rfl) (by kernel_rfl) (by kernel_rfl) (by kernel_rfl) (fun _ _ _ h => h) (by rfl) (fun _ _ => by go_simp) hS ?_
        simp only [Act.put, List.setIfInBounds_toArray, List.set_cons_zero, List.set_cons_succ]
        refine wpAnyL_take 6 62 (.bool true) [7, 8, 18, 30, 31] rfl rfl (by kernel_rfl) (by kernel_rfl) (by kernel_rfl) (by kernel_rfl) (by kernel_rfl) (fun _ _ _ h => h) (by rfl) (fun _ _ => by go_simp) hS ?_
        simp only [Act.put, List.setIfInBounds_toArray, List.set_cons_zero, List.set_cons_succ]
        refine wpAnyL_take 7 63 (.bool false) [8, 18, 30, 31] rfl rfl (by kernel_rfl) (by kernel_rfl) (by kernel_rfl) (by kernel_rfl) (by kernel_rfl) (fun _ _ _ h => h) (by rfl) (fun _ _ => by go_simp) hS ?_
        simp only [Act.put, List.setIfInBounds_toArray, List.set_cons_zero, List.set_cons_succ]
        refine wpAnyL_take 8 64 (.bool false) [18, 30, 31] rfl rfl (by kernel_rfl) (by kernel_rfl) (by kernel_rfl) (by kernel_rfl) (by kernel_rfl) (fun _ _ _ h => h) (by rfl) (fun _ _ => by go_simp) hS ?_
        simp only [Act.put, List.setIfInBounds_toArray, List.set_cons_zero, List.set_cons_succ]
        refine wpAnyL_take 9 65 (.string y) [10, 16, 17, 18, 30, 31] rfl rfl (by kernel_rfl) (by kernel_rfl) (by kernel_rfl) (by kernel_rfl) (by kernel_rfl) (fun _ _ _ h => h) (by rfl) (fun _ _ => by go_simp) hS ?_
        simp only [Act.put, List.setIfInBounds_toArray, List.set_cons_zero, List.set_cons_succ]
        refine wpAnyL_take 10 66 (.bool yb) [16, 17, 18, 30, 31] rfl rfl (by kernel_rfl) (by kernel_rfl) (by kernel_rfl) (by kernel_rfl) (by kernel_rfl) (fun _ _ _ h => h) (by rfl) (fun _ _ => by go_simp) hS ?_
        simp only [Act.put, List.setIfInBounds_toArray, List.set_cons_zero, List.set_cons_succ]
        refine wpAnyL_take 11 67 (.pointer (some ⟨N + 1, 1, none⟩)) [12, 13, 14, 15, 16, 17, 18, 30, 31] rfl rfl (by kernel_rfl) (by kernel_rfl) (by kernel_rfl) (by kernel_rfl) (by kernel_rfl) (fun _ _ _ h => h) (by rfl) (fun _ _ => by go_simp) hS ?_
        simp only [Act.put, List.setIfInBounds_toArray, List.set_cons_zero, List.set_cons_succ]
        refine wpAnyL_take 12 68 (.pointer (some ⟨N + 1, 1, none⟩)) [13, 14, 15, 16, 17, 18, 30, 31] rfl rfl (by kernel_rfl) (by kernel_rfl) (by kernel_rfl) (by kernel_rfl) (by kernel_rfl) (fun _ _ _ h => h) (by rfl) (fun _ _ => by go_simp) hS ?_
        simp only [Act.put, List.setIfInBounds_toArray, List.set_cons_zero, List.set_cons_succ]
        refine wpAnyL_take 13 69 (.slice vb.sa nb vb.sc) [14, 15, 16, 17, 18, 30, 31] rfl rfl (by kernel_rfl) (by kernel_rfl) (by kernel_rfl) (by kernel_rfl) (by kernel_rfl) (fun _ _ _ h => h) (by rfl) (fun V hV => by obtain ⟨c0, c1, c2⟩ := ((unhide HLB).below hV).cells; go_simp) hS ?_
        simp only [Act.put, List.setIfInBounds_toArray, List.set_cons_zero, List.set_cons_succ]
        refine wpAnyL_take 14 70 (.int .i64 (nb : Int)) [15, 16, 17, 18, 30, 31] rfl rfl (by kernel_rfl) (by kernel_rfl) (by kernel_rfl) (by kernel_rfl) (by kernel_rfl) (fun _ _ _ h => h) (by rfl) (fun _ _ => by go_simp) hS ?_
        simp only [Act.put, List.setIfInBounds_toArray, List.set_cons_zero, List.set_cons_succ]
        refine wpAnyL_take 15 71 (.bool yb) [16, 17, 18, 30, 31] rfl rfl (by kernel_rfl) (by kernel_rfl) (by kernel_rfl) (by kernel_rfl) (by kernel_rfl) (fun _ _ _ h => h) (by rfl) (fun _ _ => by go_simp) hS ?_
        simp only [Act.put, List.setIfInBounds_toArray, List.set_cons_zero, List.set_cons_succ]
        refine wpAnyL_take 16 72 (.bool false) [17, 18, 30, 31] rfl rfl (by kernel_rfl) (by kernel_rfl) (by kernel_rfl) (by kernel_rfl) (by kernel_rfl) (fun _ _ _ h => h) (by rfl) (fun _ _ => by go_simp) hS ?_
        simp only [Act.put, List.setIfInBounds_toArray, List.set_cons_zero, List.set_cons_succ]
        refine wpAnyL_take 17 73 (.bool false) [18, 30, 31] rfl rfl (by kernel_rfl) (by kernel_rfl) (by kernel_rfl) (by kernel_rfl) (by kernel_rfl) (fun _ _ _ h => h) (by rfl) (fun _ _ => by go_simp) hS ?_
        simp only [Act.put, List.setIfInBounds_toArray, List.set_cons_zero, List.set_cons_succ]
        refine wpAnyL_take 18 74 (.bool false) [30, 31] rfl rfl (by kernel_rfl) (by kernel_rfl) (by kernel_rfl) (by kernel_rfl) (by kernel_rfl) (fun _ _ _ h => h) (by rfl) (fun _ _ => by go_simp) hS ?_
        simp only [Act.put, List.setIfInBounds_toArray, List.set_cons_zero, List.set_cons_succ]
        refine wpAnyL_take 19 75 (.string ⟨#[]⟩) [20, 21, 27, 31] rfl rfl (by kernel_rfl) (by kernel_rfl) (by kernel_rfl) (by kernel_rfl) (by kernel_rfl) (fun _ _ _ h => h) (by rfl) (fun _ _ => by go_simp) hS ?_
        simp only [Act.put, List.setIfInBounds_toArray, List.set_cons_zero, List.set_cons_succ]
        refine wpAnyL_take 20 76 (.bool false) [21, 27, 31] rfl rfl (by kernel_rfl) (by kernel_rfl) (by kernel_rfl) (by kernel_rfl) (by kernel_rfl) (fun _ _ _ h => h) (by rfl) (fun _ _ => by go_simp) hS ?_
        simp only [Act.put, List.setIfInBounds_toArray, List.set_cons_zero, List.set_cons_succ]
        refine wpAnyL_take 21 77 (.bool false) [27, 31] rfl rfl (by kernel_rfl) (by kernel_rfl) (by kernel_rfl) (by kernel_rfl) (by kernel_rfl) (fun _ _ _ h => h) (by rfl) (fun _ _ => by go_simp) hS ?_
        simp only [Act.put, List.setIfInBounds_toArray, List.set_cons_zero, List.set_cons_succ]
        refine wpAnyL_skip 22 78 [24, 28, 29, 30, 31] rfl rfl (by kernel_rfl) (by kernel_rfl) (by kernel_rfl) (by kernel_rfl) (by kernel_rfl) (fun _ _ _ h => h) (by rfl) hS ?_
        simp only [Act.put, List.setIfInBounds_toArray, List.set_cons_zero, List.set_cons_succ]
        refine wpAnyL_skip 23 79 [24, 28, 29, 30, 31] rfl rfl (by kernel_rfl) (by kernel_rfl) (by kernel_rfl) (by kernel_rfl) (by kernel_rfl) (fun _ _ _ h => h) (by rfl) hS ?_
        simp only [Act.put, List.setIfInBounds_toArray, List.set_cons_zero, List.set_cons_succ]
        refine wpAnyL_skip 24 80 [28, 29, 30, 31] rfl rfl (by kernel_rfl) (by kernel_rfl) (by kernel_rfl) (by kernel_rfl) (by kernel_rfl) (fun _ _ _ h => h) (by rfl) hS ?_
        simp only [Act.put, List.setIfInBounds_toArray, List.set_cons_zero, List.set_cons_succ]
        refine wpAnyL_skip 25 81 [27, 31] rfl rfl (by kernel_rfl) (by kernel_rfl) (by kernel_rfl) (by kernel_rfl) (by kernel_rfl) (fun _ _ _ h => h) (by rfl) hS ?_
        simp only [Act.put, List.setIfInBounds_toArray, List.set_cons_zero, List.set_cons_succ]
        refine wpAnyL_skip 26 82 [27, 31] rfl rfl (by kernel_rfl) (by kernel_rfl) (by kernel_rfl) (by kernel_rfl) (by kernel_rfl) (fun _ _ _ h => h) (by rfl) hS ?_
        simp only [Act.put, List.setIfInBounds_toArray, List.set_cons_zero, List.set_cons_succ]
        refine wpAnyL_skip 27 83 [31] rfl rfl (by kernel_rfl) (by kernel_rfl) (by kernel_rfl) (by kernel_rfl) (by kernel_rfl) (fun _ _ _ h => h) (by rfl) hS ?_
        simp only [Act.put, List.setIfInBounds_toArray, List.set_cons_zero, List.set_cons_succ]
        refine wpAnyL_skip 28 84 [29, 30, 31] rfl rfl (by kernel_rfl) (by kernel_rfl) (by kernel_rfl) (by kernel_rfl) (by kernel_rfl) (fun _ _ _ h => h) (by rfl) hS ?_
        simp only [Act.put, List.setIfInBounds_toArray, List.set_cons_zero, List.set_cons_succ]
        refine wpAnyL_take 29 85 (.bool false) [30, 31] rfl rfl (by kernel_rfl) (by kernel_rfl) (by kernel_rfl) (by kernel_rfl) (by kernel_rfl) (fun _ _ _ h => h) (by rfl) (fun _ _ => by go_simp) hS ?_
        simp only [Act.put, List.setIfInBounds_toArray, List.set_cons_zero, List.set_cons_succ]
        refine wpAnyL_take 30 86 (.bool false) [31] rfl rfl (by kernel_rfl) (by kernel_rfl) (by kernel_rfl) (by kernel_rfl) (by kernel_rfl) (fun _ _ _ h => h) (by rfl) (fun _ _ => by go_simp) hS ?_
        simp only [Act.put, List.setIfInBounds_toArray, List.set_cons_zero, List.set_cons_succ]
        refine wpAnyL_take 31 87 (.bool false) [] rfl rfl (by kernel_rfl) (by kernel_rfl) (by kernel_rfl) (by kernel_rfl) (by kernel_rfl) (fun _ _ _ h => h) (by rfl) (fun _ _ => by go_simp) hS ?_
        simp only [Act.put, List.setIfInBounds_toArray, List.set_cons_zero, List.set_cons_succ]
        refine wpAnyL_take 32 88 (obV a.key va na ma) [33, 36, 40] rfl rfl (by kernel_rfl) (by kernel_rfl) (by kernel_rfl) (by kernel_rfl) (by kernel_rfl) (fun _ _ _ h => h) (by rfl) (fun V hV => by obtain ⟨c0, c1, c2⟩ := ((unhide HLA).below hV).cells; simp only [obV]; go_simp) hS ?_
        simp only [Act.put, List.setIfInBounds_toArray, List.set_cons_zero, List.set_cons_succ]
        refine wpAnyL_take 34 90 (obV b.key vb nb mb) [35, 36, 40] rfl rfl (by kernel_rfl) (by kernel_rfl) (by kernel_rfl) (by kernel_rfl) (by kernel_rfl) (fun _ _ _ h => h) (by rfl) (fun V hV => by obtain ⟨c0, c1, c2⟩ := ((unhide HLB).below hV).cells; simp only [obV]; go_simp) hS ?_
        simp only [Act.put, List.setIfInBounds_toArray, List.set_cons_zero, List.set_cons_succ]
        refine wpAnyL_take 37 93 (obV a.key va na ma) [39, 40] rfl rfl (by kernel_rfl) (by kernel_rfl) (by kernel_rfl) (by kernel_rfl) (by kernel_rfl) (fun _ _ _ h => h) (by rfl) (fun V hV => by obtain ⟨c0, c1, c2⟩ := ((unhide HLA).below hV).cells; simp only [obV]; go_simp) hS ?_
        simp only [Act.put, List.setIfInBounds_toArray, List.set_cons_zero, List.set_cons_succ]
        refine wpAnyL_take 38 94 (obV b.key vb nb mb) [39, 40] rfl rfl (by kernel_rfl) (by kernel_rfl) (by kernel_rfl) (by kernel_rfl) (by kernel_rfl) (fun _ _ _ h => h) (by rfl) (fun V hV => by obtain ⟨c0, c1, c2⟩ := ((unhide HLB).below hV).cells; simp only [obV]; go_simp) hS ?_
        simp only [Act.put, List.setIfInBounds_toArray, List.set_cons_zero, List.set_cons_succ]
        refine wpAnyL_one (i := 33) (by kernel_rfl) rfl (by rfl) fun K hK => ?_
        refine wp_call_fn 13 _ _ (by rfl) #[obV a.key va na ma] (by with_unfolding_all rfl) entLT (some 89) (by rfl) _ (asV2 (kTwin Z0 ((unhide HLA).toSx.below (hS)))) ?_
        rintro _ Z2 ⟨xa, rfl, hsx, hbx⟩
        have HSZ2 : Hid (Below U9.heap.size U9 Z2) := (hS).trans (hbx.mono (hS).size)
        have HTA := hide hsx
        clear hsx
        clear hbx
        refine hK _ _ (fun _ => unhide HSZ2) ?_
        clear hK K
        simp only [Act.put, List.setIfInBounds_toArray, List.set_cons_zero, List.set_cons_succ]
        refine wpAnyL_one (i := 35) (by kernel_rfl) rfl (by rfl) fun K hK => ?_
        refine wp_call_fn 13 _ _ (by rfl) #[obV b.key vb nb mb] (by with_unfolding_all rfl) entLT (some 91) (by rfl) _ (asV2 (kTwin Z2 ((unhide HLB).toSx.below (unhide HSZ2)))) ?_
        rintro _ Z3 ⟨xb, rfl, hsx, hbx⟩
        have HSZ3 : Hid (Below U9.heap.size U9 Z3) := (unhide HSZ2).trans (hbx.mono (unhide HSZ2).size)
        have HTB := hide hsx
        replace HTA := hide ((unhide HTA).below hbx)
        clear hsx
        clear hbx
        refine hK _ _ (fun _ => unhide HSZ3) ?_
        clear hK K
        simp only [Act.put, List.setIfInBounds_toArray, List.set_cons_zero, List.set_cons_succ]
        refine wpAnyL_one (i := 36) (by kernel_rfl) rfl (by rfl) fun K hK => ?_
        refine wp_call_fn 29 _ _ (by rfl) #[obV a.key xa na ma, obV b.key xb nb mb] (by with_unfolding_all rfl) entOS (some 92) (by rfl) _ (asV (oSame (o := a) (q := b) (unhide HTA) (unhide HTB) sm (unhide HSO))) ?_
        rintro _ Z4 ⟨rfl, hbx⟩
        have HSZ4 : Hid (Below U9.heap.size U9 Z4) := (unhide HSZ3).trans (hbx.mono (unhide HSZ3).size)
        clear HTA HTB
        clear hbx
        refine hK _ _ (fun _ => unhide HSZ4) ?_
        clear hK K
        simp only [Act.put, List.setIfInBounds_toArray, List.set_cons_zero, List.set_cons_succ]
        refine wpAnyL_one (i := 39) (by kernel_rfl) rfl (by rfl) fun K hK => ?_
        refine wp_call_fn 17 _ _ (by rfl) #[obV a.key va na ma, obV b.key vb nb mb] (by with_unfolding_all rfl) entLS (some 95) (by rfl) _ (asV (klSame (a := a) (b := b) ((unhide HLA).toSx.below (unhide HSZ4)) ((unhide HLB).toSx.below (unhide HSZ4)) sm (unhide HSM))) ?_
        rintro _ Z5 ⟨rfl, hbx⟩
        have HSZ5 : Hid (Below U9.heap.size U9 Z5) := (unhide HSZ4).trans (hbx.mono (unhide HSZ4).size)
        clear hbx
        refine hK _ _ (fun _ => unhide HSZ5) ?_
        clear hK K
        simp only [Act.put, List.setIfInBounds_toArray, List.set_cons_zero, List.set_cons_succ]
        refine wpAnyL_take 40 96 (.bool false) [] rfl rfl (by kernel_rfl) (by kernel_rfl) (by kernel_rfl) (by kernel_rfl) (by kernel_rfl) (fun _ _ _ h => h) (by rfl) (fun _ _ => by go_simp) (unhide HSZ5) ?_
        simp only [Act.put, List.setIfInBounds_toArray, List.set_cons_zero, List.set_cons_succ]
        refine wpAnyL_one (i := 41) (by kernel_rfl) rfl (by rfl) fun K hK => ?_
        refine wp_val (.bool false) (by go_simp) (some 97) (by rfl) ?_
        refine hK _ _ (fun _ => unhide HSZ5) ?_
        clear hK K
        simp only [Act.put, List.setIfInBounds_toArray, List.set_cons_zero, List.set_cons_succ]
        refine wpAnyL_done (by kernel_rfl) ?_ _
        replace HLA := hide ((unhide HLA).below (unhide HSZ5))
        replace HLB := hide ((unhide HLB).below (unhide HSZ5))
        replace HBU : Hid (Below N u Z5) := (unhide HBU).trans ((unhide HSZ5).mono (unhide HNW))
        replace HNW : Hid (N ≤ Z5.heap.size) := Nat.le_trans (unhide HNW) (unhide HSZ5).size
        clear HSZ2 HSZ3 HSZ4 HSZ5 hS HSM HSO
        obtain ⟨c0A, c1A, c2A⟩ := (unhide HLA).cells
        obtain ⟨c0B, c1B, c2B⟩ := (unhide HLB).cells
        go_upto_region 13 with (first
          | (go_at_call 13; refine (kTwin Z5 (unhide HLA).toSx).mono ?_; rintro e U61 ⟨x5, rfl, hs, hb⟩; clear c0A c1A c2A c0B c1B c2B; replace HLA := hide ((unhide HLA).below hb); replace HLB := hide ((unhide HLB).below hb); replace HBU : Hid (Below N u U61) := (unhide HBU).trans (hb.mono (unhide HNW)); replace HNW : Hid (N ≤ U61.heap.size) := Nat.le_trans (unhide HNW) hb.size; have HT := hide hs; clear hs; clear hb; obtain ⟨c0A, c1A, c2A⟩ := (unhide HLA).cells; obtain ⟨c0B, c1B, c2B⟩ := (unhide HLB).cells; )
          | (go_at_call 32; refine (oSum (o := a) (unhide HT) one _ _ (unhide HG1)).mono ?_; rintro e U62 ⟨rfl, hb⟩; clear c0A c1A c2A c0B c1B c2B; replace HLA := hide ((unhide HLA).below hb); replace HLB := hide ((unhide HLB).below hb); replace HT := hide ((unhide HT).below hb); replace HBU : Hid (Below N u U62) := (unhide HBU).trans (hb.mono (unhide HNW)); replace HNW : Hid (N ≤ U62.heap.size) := Nat.le_trans (unhide HNW) hb.size; clear HT; clear HG1; clear hb; obtain ⟨c0A, c1A, c2A⟩ := (unhide HLA).cells; obtain ⟨c0B, c1B, c2B⟩ := (unhide HLB).cells; )
          | (go_at_call 13; refine (kTwin U62 (unhide HLA).toSx).mono ?_; rintro e U63 ⟨x6, rfl, hs, hb⟩; clear c0A c1A c2A c0B c1B c2B; replace HLA := hide ((unhide HLA).below hb); replace HLB := hide ((unhide HLB).below hb); replace HBU : Hid (Below N u U63) := (unhide HBU).trans (hb.mono (unhide HNW)); replace HNW : Hid (N ≤ U63.heap.size) := Nat.le_trans (unhide HNW) hb.size; have HT := hide hs; clear hs; clear hb; obtain ⟨c0A, c1A, c2A⟩ := (unhide HLA).cells; obtain ⟨c0B, c1B, c2B⟩ := (unhide HLB).cells; )
          | (go_at_call 32; refine (oSum (o := a) (unhide HT) two _ _ (unhide HG2)).mono ?_; rintro e U64 ⟨rfl, hb⟩; clear c0A c1A c2A c0B c1B c2B; replace HLA := hide ((unhide HLA).below hb); replace HLB := hide ((unhide HLB).below hb); replace HT := hide ((unhide HT).below hb); replace HBU : Hid (Below N u U64) := (unhide HBU).trans (hb.mono (unhide HNW)); replace HNW : Hid (N ≤ U64.heap.size) := Nat.le_trans (unhide HNW) hb.size; clear HT; clear HG2; clear hb; obtain ⟨c0A, c1A, c2A⟩ := (unhide HLA).cells; obtain ⟨c0B, c1B, c2B⟩ := (unhide HLB).cells; )
          | fail)
        rcases unhide HC1 with ⟨h1, h2, rfl⟩ | ⟨h1, rfl⟩ | ⟨h1, h2, rfl⟩
        · rcases unhide HC2 with ⟨h3, h4, rfl⟩ | ⟨h3, rfl⟩ | ⟨h3, h4, rfl⟩
          · obtain ⟨rfl, rfl⟩ := unhide HE ⟨h1, h2⟩ ⟨h3, h4⟩
            obtain ⟨nn, hmn⟩ := mn_ex one two
            go_wp2
            go_ret
            exact ⟨rfl, unhide HBU⟩
          · go_wp2
            go_ret
            exact ⟨rfl, unhide HBU⟩
          · go_wp2
            go_ret
            exact ⟨rfl, unhide HBU⟩
        · rcases unhide HC2 with ⟨h3, h4, rfl⟩ | ⟨h3, rfl⟩ | ⟨h3, h4, rfl⟩
          · go_wp2
            go_ret
            exact ⟨rfl, unhide HBU⟩
          · go_wp2
            go_ret
            exact ⟨rfl, unhide HBU⟩
          · go_wp2
            go_ret
            exact ⟨rfl, unhide HBU⟩
        · rcases unhide HC2 with ⟨h3, h4, rfl⟩ | ⟨h3, rfl⟩ | ⟨h3, h4, rfl⟩
          · go_wp2
            go_ret
            exact ⟨rfl, unhide HBU⟩
          · go_wp2
            go_ret
            exact ⟨rfl, unhide HBU⟩
          · go_wp2
            go_ret
            exact ⟨rfl, unhide HBU⟩
      · have hz : a.st.seen.length ≠ 0 := fun q => h0 ((unhide HNA).trans q)
        have hxn : (x.toList == []) = false := by rw [hxa]; exact form_nil hz
        have hxn2 : ¬ x.toList = [] := by rw [hxa, form_some hz]; exact List.cons_ne_nil _ _
        have hxy : (x.toList == y.toList) = sm := by rw [hxa, hyb, ← hsm]; exact form_eq hca hcb (unhide HFTA) (unhide HFTB) hz
        have HP : Hid ((1 ≤ one ∧ one ≤ 32) → (1 ≤ two ∧ two ≤ 32) → one = (s.size : Int) ∧ two = (t.size : Int) ∧ ∃ nn : Nat, nn ≤ s.size ∧ nn ≤ t.size ∧ ((s.extract 0 nn).toList == (t.extract 0 nn).toList) = true ∧ ∀ (ts : Array TypeId) (ty : TypeId) (W : World), (Builtin.min_ ts ty #[.int .i64 one, .int .i64 two]).run Try.prog W = .ok (.int .i64 (nn : Int)) W) := fun q1 q2 => by
          obtain ⟨r1, r2, nn, r3, r4, r5, r6⟩ := sum_front hca hz q1 q2
          rw [hsg] at r1 r3 r5
          rw [hth] at r2 r4 r5
          exact ⟨r1, r2, nn, r3, r4, r5, fun ts ty W => by rw [run_min_int2, r6]⟩
        have hna2 : ((na : Int) == 0) = false := beq_eq_false_iff_ne.2 (by omega)
        clear hxa hca hcb hsm hsg hth hyb2 hz h0 hyb
        go_wp2_with fail
        refine wp_region_last (fun V => Below U9.heap.size U9 V) 41 hmix (belowDrew (Below.refl _ _)) fun hS => ?_
        generalize U9.drew = Z0 at hS ⊢
        refine wpAnyL_take 0 56 (.string x) [1, 7, 8, 18, 30, 31] rfl rfl (by kernel_rfl) (by kernel_rfl) (by kernel_rfl) (by kernel_rfl) (by kernel_rfl) (fun _ _ _ h => h) (by rfl) (fun _ _ => by go_simp) hS ?_
        simp only [Act.put, List.setIfInBounds_toArray, List.set_cons_zero, List.set_cons_succ]
        refine wpAnyL_take 1 57 (.bool false) [7, 8, 18, 30, 31] rfl rfl (by kernel_rfl) (by kernel_rfl) (by kernel_rfl) (by kernel_rfl) (by kernel_rfl) (fun _ _ _ h => h) (by rfl) (fun _ _ => by go_simp) hS ?_
        simp only [Act.put, List.setIfInBounds_toArray, List.set_cons_zero, List.set_cons_succ]
        refine wpAnyL_take 2 58 (.pointer (some ⟨N, 1, none⟩)) [3, 4, 5, 6, 7, 8, 18, 30, 31] rfl rfl (by kernel_rfl) (by kernel_rfl) (by kernel_rfl) (by kernel_rfl) (by kernel_rfl) (fun _ _ _ h => h) (by rfl) (fun _ _ => by go_simp) hS ?_
        simp only [Act.put, List.setIfInBounds_toArray, List.set_cons_zero, List.set_cons_succ]
        refine wpAnyL_take 3 59 (.pointer (some ⟨N, 1, none⟩)) [4, 5, 6, 7, 8, 18, 30, 31] rfl rfl (by kernel_rfl) (by kernel_rfl) (by kernel_rfl) (by kernel_rfl) (by kernel_rfl) (fun _ _ _ h => h) (by rfl) (fun _ _ => by go_simp) hS ?_
        simp only [Act.put, List.setIfInBounds_toArray, List.set_cons_zero, List.set_cons_succ]
        refine wpAnyL_take 4 60 (.slice va.sa na va.sc) [5, 6, 7, 8, 18, 30, 31] rfl rfl (by kernel_rfl) (by kernel_rfl) (by kernel_rfl) (by kernel_rfl) (by kernel_rfl) (fun _ _ _ h => h) (by rfl) (fun V hV => by obtain ⟨c0, c1, c2⟩ := ((unhide HLA).below hV).cells; go_simp) hS ?_
        simp only [Act.put, List.setIfInBounds_toArray, List.set_cons_zero, List.set_cons_succ]
        refine wpAnyL_take 5 61 (.int .i64 (na : Int)) [6, 7, 8, 18, 30, 31] rfl rfl (by kernel_rfl) (by kernel_rfl) (by kernel_rfl) (by kernel_rfl) (by kernel_rfl) (fun _ _ _ h => h) (by rfl) (fun _ _ => by go_simp) hS ?_
        simp only [Act.put, List.setIfInBounds_toArray, List.set_cons_zero, List.set_cons_succ]
        refine wpAnyL_take 6 62 (.bool false) [7, 8, 18, 30, 31] rfl rfl (by kernel_rfl) (by kernel_rfl) (by kernel_rfl) (by kernel_rfl) (by kernel_rfl) (fun _ _ _ h => h) (by rfl) (fun _ _ => by go_simp) hS ?_
        simp only [Act.put, List.setIfInBounds_toArray, List.set_cons_zero, List.set_cons_succ]
        refine wpAnyL_take 7 63 (.bool false) [8, 18, 30, 31] rfl rfl (by kernel_rfl) (by kernel_rfl) (by kernel_rfl) (by kernel_rfl) (by kernel_rfl) (fun _ _ _ h => h) (by rfl) (fun _ _ => by go_simp) hS ?_
        simp only [Act.put, List.setIfInBounds_toArray, List.set_cons_zero, List.set_cons_succ]
        refine wpAnyL_take 8 64 (.bool false) [18, 30, 31] rfl rfl (by kernel_rfl) (by kernel_rfl) (by kernel_rfl) (by kernel_rfl) (by kernel_rfl) (fun _ _ _ h => h) (by rfl) (fun _ _ => by go_simp) hS ?_
        simp only [Act.put, List.setIfInBounds_toArray, List.set_cons_zero, List.set_cons_succ]
        refine wpAnyL_take 9 65 (.string y) [10, 16, 17, 18, 30, 31] rfl rfl (by kernel_rfl) (by kernel_rfl) (by kernel_rfl) (by kernel_rfl) (by kernel_rfl) (fun _ _ _ h => h) (by rfl) (fun _ _ => by go_simp) hS ?_
        simp only [Act.put, List.setIfInBounds_toArray, List.set_cons_zero, List.set_cons_succ]
        refine wpAnyL_take 10 66 (.bool yb) [16, 17, 18, 30, 31] rfl rfl (by kernel_rfl) (by kernel_rfl) (by kernel_rfl) (by kernel_rfl) (by kernel_rfl) (fun _ _ _ h => h) (by rfl) (fun _ _ => by go_simp) hS ?_
        simp only [Act.put, List.setIfInBounds_toArray, List.set_cons_zero, List.set_cons_succ]
        refine wpAnyL_take 11 67 (.pointer (some ⟨N + 1, 1, none⟩)) [12, 13, 14, 15, 16, 17, 18, 30, 31] rfl rfl (by kernel_rfl) (by kernel_rfl) (by kernel_rfl) (by kernel_rfl) (by kernel_rfl) (fun _ _ _ h => h) (by rfl) (fun _ _ => by go_simp) hS ?_
        simp only [Act.put, List.setIfInBounds_toArray, List.set_cons_zero, List.set_cons_succ]
        refine wpAnyL_take 12 68 (.pointer (some ⟨N + 1, 1, none⟩)) [13, 14, 15, 16, 17, 18, 30, 31] rfl rfl (by kernel_rfl) (by kernel_rfl) (by kernel_rfl) (by kernel_rfl) (by kernel_rfl) (fun _ _ _ h => h) (by rfl) (fun _ _ => by go_simp) hS ?_
        simp only [Act.put, List.setIfInBounds_toArray, List.set_cons_zero, List.set_cons_succ]
        refine wpAnyL_take 13 69 (.slice vb.sa nb vb.sc) [14, 15, 16, 17, 18, 30, 31] rfl rfl (by kernel_rfl) (by kernel_rfl) (by kernel_rfl) (by kernel_rfl) (by kernel_rfl) (fun _ _ _ h => h) (by rfl) (fun V hV => by obtain ⟨c0, c1, c2⟩ := ((unhide HLB).below hV).cells; go_simp) hS ?_
        simp only [Act.put, List.setIfInBounds_toArray, List.set_cons_zero, List.set_cons_succ]
        refine wpAnyL_take 14 70 (.int .i64 (nb : Int)) [15, 16, 17, 18, 30, 31] rfl rfl (by kernel_rfl) (by kernel_rfl) (by kernel_rfl) (by kernel_rfl) (by kernel_rfl) (fun _ _ _ h => h) (by rfl) (fun _ _ => by go_simp) hS ?_
        simp only [Act.put, List.setIfInBounds_toArray, List.set_cons_zero, List.set_cons_succ]
        refine wpAnyL_take 15 71 (.bool yb) [16, 17, 18, 30, 31] rfl rfl (by kernel_rfl) (by kernel_rfl) (by kernel_rfl) (by kernel_rfl) (by kernel_rfl) (fun _ _ _ h => h) (by rfl) (fun _ _ => by go_simp) hS ?_
        simp only [Act.put, List.setIfInBounds_toArray, List.set_cons_zero, List.set_cons_succ]
        refine wpAnyL_take 16 72 (.bool false) [17, 18, 30, 31] rfl rfl (by kernel_rfl) (by kernel_rfl) (by kernel_rfl) (by kernel_rfl) (by kernel_rfl) (fun _ _ _ h => h) (by rfl) (fun _ _ => by go_simp) hS ?_
        simp only [Act.put, List.setIfInBounds_toArray, List.set_cons_zero, List.set_cons_succ]
        refine wpAnyL_take 17 73 (.bool false) [18, 30, 31] rfl rfl (by kernel_rfl) (by kernel_rfl) (by kernel_rfl) (by kernel_rfl) (by kernel_rfl) (fun _ _ _ h => h) (by rfl) (fun _ _ => by go_simp) hS ?_
        simp only [Act.put, List.setIfInBounds_toArray, List.set_cons_zero, List.set_cons_succ]
        refine wpAnyL_take 18 74 (.bool false) [30, 31] rfl rfl (by kernel_rfl) (by kernel_rfl) (by kernel_rfl) (by kernel_rfl) (by kernel_rfl) (fun _ _ _ h => h) (by rfl) (fun _ _ => by go_simp) hS ?_
        simp only [Act.put, List.setIfInBounds_toArray, List.set_cons_zero, List.set_cons_succ]
        refine wpAnyL_take 19 75 (.string x) [20, 21, 27, 31] rfl rfl (by kernel_rfl) (by kernel_rfl) (by kernel_rfl) (by kernel_rfl) (by kernel_rfl) (fun _ _ _ h => h) (by rfl) (fun _ _ => by go_simp) hS ?_
        simp only [Act.put, List.setIfInBounds_toArray, List.set_cons_zero, List.set_cons_succ]
        refine wpAnyL_take 20 76 (.bool true) [21, 27, 31] rfl rfl (by kernel_rfl) (by kernel_rfl) (by kernel_rfl) (by kernel_rfl) (by kernel_rfl) (fun _ _ _ h => h) (by rfl) (fun _ _ => by go_simp) hS ?_
        simp only [Act.put, List.setIfInBounds_toArray, List.set_cons_zero, List.set_cons_succ]
        refine wpAnyL_take 21 77 (.bool true) [27, 31] rfl rfl (by kernel_rfl) (by kernel_rfl) (by kernel_rfl) (by kernel_rfl) (by kernel_rfl) (fun _ _ _ h => h) (by rfl) (fun _ _ => by go_simp) hS ?_
        simp only [Act.put, List.setIfInBounds_toArray, List.set_cons_zero, List.set_cons_succ]
        refine wpAnyL_take 22 78 (.string x) [24, 28, 29, 30, 31] rfl rfl (by kernel_rfl) (by kernel_rfl) (by kernel_rfl) (by kernel_rfl) (by kernel_rfl) (fun _ _ _ h => h) (by rfl) (fun _ _ => by go_simp) hS ?_
        simp only [Act.put, List.setIfInBounds_toArray, List.set_cons_zero, List.set_cons_succ]
        refine wpAnyL_take 23 79 (.string y) [24, 28, 29, 30, 31] rfl rfl (by kernel_rfl) (by kernel_rfl) (by kernel_rfl) (by kernel_rfl) (by kernel_rfl) (fun _ _ _ h => h) (by rfl) (fun _ _ => by go_simp) hS ?_
        simp only [Act.put, List.setIfInBounds_toArray, List.set_cons_zero, List.set_cons_succ]
        refine wpAnyL_take 24 80 (.bool sm) [28, 29, 30, 31] rfl rfl (by kernel_rfl) (by kernel_rfl) (by kernel_rfl) (by kernel_rfl) (by kernel_rfl) (fun _ _ _ h => h) (by rfl) (fun _ _ => by go_simp) hS ?_
        simp only [Act.put, List.setIfInBounds_toArray, List.set_cons_zero, List.set_cons_succ]
        refine wpAnyL_take 25 81 (obV a.key va na ma) [27, 31] rfl rfl (by kernel_rfl) (by kernel_rfl) (by kernel_rfl) (by kernel_rfl) (by kernel_rfl) (fun _ _ _ h => h) (by rfl) (fun V hV => by obtain ⟨c0, c1, c2⟩ := ((unhide HLA).below hV).cells; simp only [obV]; go_simp) hS ?_
        simp only [Act.put, List.setIfInBounds_toArray, List.set_cons_zero, List.set_cons_succ]
        refine wpAnyL_take 26 82 (obV b.key vb nb mb) [27, 31] rfl rfl (by kernel_rfl) (by kernel_rfl) (by kernel_rfl) (by kernel_rfl) (by kernel_rfl) (fun _ _ _ h => h) (by rfl) (fun V hV => by obtain ⟨c0, c1, c2⟩ := ((unhide HLB).below hV).cells; simp only [obV]; go_simp) hS ?_
        simp only [Act.put, List.setIfInBounds_toArray, List.set_cons_zero, List.set_cons_succ]
        refine wpAnyL_one (i := 27) (by kernel_rfl) rfl (by rfl) fun K hK => ?_
        refine wp_call_fn 17 _ _ (by rfl) #[obV a.key va na ma, obV b.key vb nb mb] (by with_unfolding_all rfl) entLS (some 83) (by rfl) _ (asV (klSame (a := a) (b := b) ((unhide HLA).toSx.below hS) ((unhide HLB).toSx.below hS) sm (unhide HSM))) ?_
        rintro _ Z1 ⟨rfl, hbx⟩
        have HSZ1 : Hid (Below U9.heap.size U9 Z1) := (hS).trans (hbx.mono (hS).size)
        clear hbx
        refine hK _ _ (fun _ => unhide HSZ1) ?_
        clear hK K
        simp only [Act.put, List.setIfInBounds_toArray, List.set_cons_zero, List.set_cons_succ]
        refine wpAnyL_take 28 84 (.bool false) [29, 30, 31] rfl rfl (by kernel_rfl) (by kernel_rfl) (by kernel_rfl) (by kernel_rfl) (by kernel_rfl) (fun _ _ _ h => h) (by rfl) (fun _ _ => by go_simp) (unhide HSZ1) ?_
        simp only [Act.put, List.setIfInBounds_toArray, List.set_cons_zero, List.set_cons_succ]
        refine wpAnyL_take 29 85 (.bool false) [30, 31] rfl rfl (by kernel_rfl) (by kernel_rfl) (by kernel_rfl) (by kernel_rfl) (by kernel_rfl) (fun _ _ _ h => h) (by rfl) (fun _ _ => by go_simp) (unhide HSZ1) ?_
        simp only [Act.put, List.setIfInBounds_toArray, List.set_cons_zero, List.set_cons_succ]
        refine wpAnyL_take 30 86 (.bool false) [31] rfl rfl (by kernel_rfl) (by kernel_rfl) (by kernel_rfl) (by kernel_rfl) (by kernel_rfl) (fun _ _ _ h => h) (by rfl) (fun _ _ => by go_simp) (unhide HSZ1) ?_
        simp only [Act.put, List.setIfInBounds_toArray, List.set_cons_zero, List.set_cons_succ]
        refine wpAnyL_take 31 87 (.bool false) [] rfl rfl (by kernel_rfl) (by kernel_rfl) (by kernel_rfl) (by kernel_rfl) (by kernel_rfl) (fun _ _ _ h => h) (by rfl) (fun _ _ => by go_simp) (unhide HSZ1) ?_
        simp only [Act.put, List.setIfInBounds_toArray, List.set_cons_zero, List.set_cons_succ]
        refine wpAnyL_take 32 88 (obV a.key va na ma) [33, 36, 40] rfl rfl (by kernel_rfl) (by kernel_rfl) (by kernel_rfl) (by kernel_rfl) (by kernel_rfl) (fun _ _ _ h => h) (by rfl) (fun V hV => by obtain ⟨c0, c1, c2⟩ := ((unhide HLA).below hV).cells; simp only [obV]; go_simp) (unhide HSZ1) ?_
        simp only [Act.put, List.setIfInBounds_toArray, List.set_cons_zero, List.set_cons_succ]
        refine wpAnyL_take 34 90 (obV b.key vb nb mb) [35, 36, 40] rfl rfl (by kernel_rfl) (by kernel_rfl) (by kernel_rfl) (by kernel_rfl) (by kernel_rfl) (fun _ _ _ h => h) (by rfl) (fun V hV => by obtain ⟨c0, c1, c2⟩ := ((unhide HLB).below hV).cells; simp only [obV]; go_simp) (unhide HSZ1) ?_
        simp only [Act.put, List.setIfInBounds_toArray, List.set_cons_zero, List.set_cons_succ]
        refine wpAnyL_take 37 93 (obV a.key va na ma) [39, 40] rfl rfl (by kernel_rfl) (by kernel_rfl) (by kernel_rfl) (by kernel_rfl) (by kernel_rfl) (fun _ _ _ h => h) (by rfl) (fun V hV => by obtain ⟨c0, c1, c2⟩ := ((unhide HLA).below hV).cells; simp only [obV]; go_simp) (unhide HSZ1) ?_
        simp only [Act.put, List.setIfInBounds_toArray, List.set_cons_zero, List.set_cons_succ]
        refine wpAnyL_take 38 94 (obV b.key vb nb mb) [39, 40] rfl rfl (by kernel_rfl) (by kernel_rfl) (by kernel_rfl) (by kernel_rfl) (by kernel_rfl) (fun _ _ _ h => h) (by rfl) (fun V hV => by obtain ⟨c0, c1, c2⟩ := ((unhide HLB).below hV).cells; simp only [obV]; go_simp) (unhide HSZ1) ?_
        simp only [Act.put, List.setIfInBounds_toArray, List.set_cons_zero, List.set_cons_succ]
        refine wpAnyL_one (i := 33) (by kernel_rfl) rfl (by rfl) fun K hK => ?_
        refine wp_call_fn 13 _ _ (by rfl) #[obV a.key va na ma] (by with_unfolding_all rfl) entLT (some 89) (by rfl) _ (asV2 (kTwin Z1 ((unhide HLA).toSx.below (unhide HSZ1)))) ?_
        rintro _ Z2 ⟨xa, rfl, hsx, hbx⟩
        have HSZ2 : Hid (Below U9.heap.size U9 Z2) := (unhide HSZ1).trans (hbx.mono (unhide HSZ1).size)
        have HTA := hide hsx
        clear hsx
        clear hbx
        refine hK _ _ (fun _ => unhide HSZ2) ?_
        clear hK K
        simp only [Act.put, List.setIfInBounds_toArray, List.set_cons_zero, List.set_cons_succ]
        refine wpAnyL_one (i := 35) (by kernel_rfl) rfl (by rfl) fun K hK => ?_
        refine wp_call_fn 13 _ _ (by rfl) #[obV b.key vb nb mb] (by with_unfolding_all rfl) entLT (some 91) (by rfl) _ (asV2 (kTwin Z2 ((unhide HLB).toSx.below (unhide HSZ2)))) ?_
        rintro _ Z3 ⟨xb, rfl, hsx, hbx⟩
        have HSZ3 : Hid (Below U9.heap.size U9 Z3) := (unhide HSZ2).trans (hbx.mono (unhide HSZ2).size)
        have HTB := hide hsx
        replace HTA := hide ((unhide HTA).below hbx)
        clear hsx
        clear hbx
        refine hK _ _ (fun _ => unhide HSZ3) ?_
        clear hK K
        simp only [Act.put, List.setIfInBounds_toArray, List.set_cons_zero, List.set_cons_succ]
        refine wpAnyL_one (i := 36) (by kernel_rfl) rfl (by rfl) fun K hK => ?_
        refine wp_call_fn 29 _ _ (by rfl) #[obV a.key xa na ma, obV b.key xb nb mb] (by with_unfolding_all rfl) entOS (some 92) (by rfl) _ (asV (oSame (o := a) (q := b) (unhide HTA) (unhide HTB) sm (unhide HSO))) ?_
        rintro _ Z4 ⟨rfl, hbx⟩
        have HSZ4 : Hid (Below U9.heap.size U9 Z4) := (unhide HSZ3).trans (hbx.mono (unhide HSZ3).size)
        clear HTA HTB
        clear hbx
        refine hK _ _ (fun _ => unhide HSZ4) ?_
        clear hK K
        simp only [Act.put, List.setIfInBounds_toArray, List.set_cons_zero, List.set_cons_succ]
        refine wpAnyL_one (i := 39) (by kernel_rfl) rfl (by rfl) fun K hK => ?_
        refine wp_call_fn 17 _ _ (by rfl) #[obV a.key va na ma, obV b.key vb nb mb] (by with_unfolding_all rfl) entLS (some 95) (by rfl) _ (asV (klSame (a := a) (b := b) ((unhide HLA).toSx.below (unhide HSZ4)) ((unhide HLB).toSx.below (unhide HSZ4)) sm (unhide HSM))) ?_
        rintro _ Z5 ⟨rfl, hbx⟩
        have HSZ5 : Hid (Below U9.heap.size U9 Z5) := (unhide HSZ4).trans (hbx.mono (unhide HSZ4).size)
        clear hbx
        refine hK _ _ (fun _ => unhide HSZ5) ?_
        clear hK K
        simp only [Act.put, List.setIfInBounds_toArray, List.set_cons_zero, List.set_cons_succ]
        refine wpAnyL_take 40 96 (.bool false) [] rfl rfl (by kernel_rfl) (by kernel_rfl) (by kernel_rfl) (by kernel_rfl) (by kernel_rfl) (fun _ _ _ h => h) (by rfl) (fun _ _ => by go_simp) (unhide HSZ5) ?_
        simp only [Act.put, List.setIfInBounds_toArray, List.set_cons_zero, List.set_cons_succ]
        refine wpAnyL_one (i := 41) (by kernel_rfl) rfl (by rfl) fun K hK => ?_
        refine wp_val (.bool false) (by go_simp) (some 97) (by rfl) ?_
        refine hK _ _ (fun _ => unhide HSZ5) ?_
        clear hK K
        simp only [Act.put, List.setIfInBounds_toArray, List.set_cons_zero, List.set_cons_succ]
        refine wpAnyL_done (by kernel_rfl) ?_ _
        replace HLA := hide ((unhide HLA).below (unhide HSZ5))
        replace HLB := hide ((unhide HLB).below (unhide HSZ5))
        replace HBU : Hid (Below N u Z5) := (unhide HBU).trans ((unhide HSZ5).mono (unhide HNW))
        replace HNW : Hid (N ≤ Z5.heap.size) := Nat.le_trans (unhide HNW) (unhide HSZ5).size
        clear HSZ1 HSZ2 HSZ3 HSZ4 HSZ5 hS HSM HSO
        obtain ⟨c0A, c1A, c2A⟩ := (unhide HLA).cells
        obtain ⟨c0B, c1B, c2B⟩ := (unhide HLB).cells
        go_upto_region 13 with (first
          | (go_at_call 13; refine (kTwin Z5 (unhide HLA).toSx).mono ?_; rintro e U61 ⟨x5, rfl, hs, hb⟩; clear c0A c1A c2A c0B c1B c2B; replace HLA := hide ((unhide HLA).below hb); replace HLB := hide ((unhide HLB).below hb); replace HBU : Hid (Below N u U61) := (unhide HBU).trans (hb.mono (unhide HNW)); replace HNW : Hid (N ≤ U61.heap.size) := Nat.le_trans (unhide HNW) hb.size; have HT := hide hs; clear hs; clear hb; obtain ⟨c0A, c1A, c2A⟩ := (unhide HLA).cells; obtain ⟨c0B, c1B, c2B⟩ := (unhide HLB).cells; )
          | (go_at_call 32; refine (oSum (o := a) (unhide HT) one _ _ (unhide HG1)).mono ?_; rintro e U62 ⟨rfl, hb⟩; clear c0A c1A c2A c0B c1B c2B; replace HLA := hide ((unhide HLA).below hb); replace HLB := hide ((unhide HLB).below hb); replace HT := hide ((unhide HT).below hb); replace HBU : Hid (Below N u U62) := (unhide HBU).trans (hb.mono (unhide HNW)); replace HNW : Hid (N ≤ U62.heap.size) := Nat.le_trans (unhide HNW) hb.size; clear HT; clear HG1; clear hb; obtain ⟨c0A, c1A, c2A⟩ := (unhide HLA).cells; obtain ⟨c0B, c1B, c2B⟩ := (unhide HLB).cells; )
          | (go_at_call 13; refine (kTwin U62 (unhide HLA).toSx).mono ?_; rintro e U63 ⟨x6, rfl, hs, hb⟩; clear c0A c1A c2A c0B c1B c2B; replace HLA := hide ((unhide HLA).below hb); replace HLB := hide ((unhide HLB).below hb); replace HBU : Hid (Below N u U63) := (unhide HBU).trans (hb.mono (unhide HNW)); replace HNW : Hid (N ≤ U63.heap.size) := Nat.le_trans (unhide HNW) hb.size; have HT := hide hs; clear hs; clear hb; obtain ⟨c0A, c1A, c2A⟩ := (unhide HLA).cells; obtain ⟨c0B, c1B, c2B⟩ := (unhide HLB).cells; )
          | (go_at_call 32; refine (oSum (o := a) (unhide HT) two _ _ (unhide HG2)).mono ?_; rintro e U64 ⟨rfl, hb⟩; clear c0A c1A c2A c0B c1B c2B; replace HLA := hide ((unhide HLA).below hb); replace HLB := hide ((unhide HLB).below hb); replace HT := hide ((unhide HT).below hb); replace HBU : Hid (Below N u U64) := (unhide HBU).trans (hb.mono (unhide HNW)); replace HNW : Hid (N ≤ U64.heap.size) := Nat.le_trans (unhide HNW) hb.size; clear HT; clear HG2; clear hb; obtain ⟨c0A, c1A, c2A⟩ := (unhide HLA).cells; obtain ⟨c0B, c1B, c2B⟩ := (unhide HLB).cells; )
          | fail)
        rcases unhide HC1 with ⟨h1, h2, rfl⟩ | ⟨h1, rfl⟩ | ⟨h1, h2, rfl⟩
        · rcases unhide HC2 with ⟨h3, h4, rfl⟩ | ⟨h3, rfl⟩ | ⟨h3, h4, rfl⟩
          · obtain ⟨rfl, rfl, nn, hn1, hn2, heq, hmn⟩ := unhide HP ⟨h1, h2⟩ ⟨h3, h4⟩
            have hq1 : (nn : Int) ≤ (s.size : Int) := by omega
            have hq2 : (nn : Int) ≤ (t.size : Int) := by omega
            go_wp2_with fail
            go_quiet (fail)
            go_wp2
            go_ret
            exact ⟨rfl, belowDrewN (unhide HBU) _⟩
          · go_wp2
            go_ret
            exact ⟨rfl, unhide HBU⟩
          · go_wp2
            go_ret
            exact ⟨rfl, unhide HBU⟩
        · rcases unhide HC2 with ⟨h3, h4, rfl⟩ | ⟨h3, rfl⟩ | ⟨h3, h4, rfl⟩
          · go_wp2
            go_ret
            exact ⟨rfl, unhide HBU⟩
          · go_wp2
            go_ret
            exact ⟨rfl, unhide HBU⟩
          · go_wp2
            go_ret
            exact ⟨rfl, unhide HBU⟩
        · rcases unhide HC2 with ⟨h3, h4, rfl⟩ | ⟨h3, rfl⟩ | ⟨h3, h4, rfl⟩
          · go_wp2
            go_ret
            exact ⟨rfl, unhide HBU⟩
          · go_wp2
            go_ret
            exact ⟨rfl, unhide HBU⟩
          · go_wp2
            go_ret
            exact ⟨rfl, unhide HBU⟩
    · have hf' : (f != 0) = true := by simpa using hf
      subst he
      clear hf HEA HEB
      go_wp2
      go_ret
      exact ⟨rfl, unhide HBU⟩
  · have he' : (e != 0) = true := by simpa using he
    have he2 : (e == 0) = false := beq_eq_false_iff_ne.2 he
    have hx0 := (unhide HEA).2.2 he
    subst hx0
    clear he HEA HEB
    go_wp2
    go_ret
    exact ⟨rfl, unhide HBU⟩
end Go.Proofs.Ytkcbljmjhlnjpaa
