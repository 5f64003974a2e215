/- ObjectMerges: the walk (written by mkou.py). -/
import Derived.Test.YtkcbljmjhlnjpaaQOv
import Derived.Deep.DeepCutAuto
namespace Go.Proofs.Ytkcbljmjhlnjpaa
open Go.RowKit Go.Lib
set_option maxRecDepth 100000 in
set_option maxHeartbeats 32000000 in
theorem merges13_walk (a b c : Ot) (va vb vc : Sv) (u : World) (ha : SAt u a.st va) (hb : SAt u b.st vb) (hc : SAt u c.st vc) : Calls Try.prog 9 #[obV a.key va a.st.seen.length a.st.sibs.length, obV b.key vb b.st.seen.length b.st.sibs.length, obV c.key vc c.st.seen.length c.st.sibs.length] u fun e u' => e = .returned (.bool true) ∧ Below u.heap.size u u' := by
  have hmix : Try.prog.follows .mixedOrders = true := by kernel_rfl
  obtain ⟨N, hN⟩ : ∃ N, N = u.heap.size := ⟨_, rfl⟩
  have HN := hide hN
  obtain ⟨na, hna⟩ : ∃ n, n = a.st.seen.length := ⟨_, rfl⟩
  obtain ⟨ma, hma⟩ : ∃ n, n = a.st.sibs.length := ⟨_, rfl⟩
  obtain ⟨nb, hnb⟩ : ∃ n, n = b.st.seen.length := ⟨_, rfl⟩
  obtain ⟨mb, hmb⟩ : ∃ n, n = b.st.sibs.length := ⟨_, rfl⟩
  obtain ⟨nc, hnc⟩ : ∃ n, n = c.st.seen.length := ⟨_, rfl⟩
  obtain ⟨mc, hmc⟩ : ∃ n, n = c.st.sibs.length := ⟨_, rfl⟩
  have HSA : Hid (Sx u a.st va na ma) := ⟨ha, hna, hma⟩
  have HSB : Hid (Sx u b.st vb nb mb) := ⟨hb, hnb, hmb⟩
  have HSC : Hid (Sx u c.st vc nc mc) := ⟨hc, hnc, hmc⟩
  rw [← hna, ← hma, ← hnb, ← hmb, ← hnc, ← hmc, ← hN]
  have HU : Hid (∀ W : World, Below N u W → Below u.heap.size u W) := fun W hW => by rw [← unhide HN]; exact hW
  obtain ⟨⟨AB, e⟩, h1⟩ : ∃ p, mergeV a b = p := ⟨_, rfl⟩
  obtain ⟨⟨BA, f⟩, h2⟩ : ∃ p, mergeV b a = p := ⟨_, rfl⟩
  obtain ⟨⟨BC, i⟩, h5⟩ : ∃ p, mergeV b c = p := ⟨_, rfl⟩
  obtain ⟨⟨XX, j⟩, h6⟩ : ∃ p, mergeV AB c = p := ⟨_, rfl⟩
  obtain ⟨⟨YY, r⟩, h7⟩ : ∃ p, mergeV a BC = p := ⟨_, rfl⟩
  have HF1 : Hid (SOk AB.st ∧ FitT AB.st) := by have := merge_fit ha.fit hb.fit; rw [h1] at this; exact this
  have HF2 : Hid (SOk BA.st ∧ FitT BA.st) := by have := merge_fit hb.fit ha.fit; rw [h2] at this; exact this
  have HF5 : Hid (SOk BC.st ∧ FitT BC.st) := by have := merge_fit hb.fit hc.fit; rw [h5] at this; exact this
  have HF6 : Hid (SOk XX.st ∧ FitT XX.st) := by have := merge_fit (unhide HF1).2 hc.fit; rw [h6] at this; exact this
  have HF7 : Hid (SOk YY.st ∧ FitT YY.st) := by have := merge_fit ha.fit (unhide HF5).2; rw [h7] at this; exact this
  obtain ⟨AA, NN, g, h3, h4, hcg, hf3, hf4, hg3, hg4⟩ : ∃ AA NN g, mergeV a a = (AA, g) ∧ mergeV a ⟨a.key, St.none⟩ = (NN, g) ∧ ckE a = g ∧ (SOk AA.st ∧ FitT AA.st) ∧ (SOk NN.st ∧ FitT NN.st) ∧ ((g = 0 ∧ AA = a) ∨ g ≠ 0) ∧ ((g = 0 ∧ NN = a) ∨ g ≠ 0) := by
    rcases merge_self a with ⟨q1, q2⟩ | ⟨q1, q2⟩
    · rcases merge_none a with ⟨-, q4⟩ | ⟨q3, -⟩
      · exact ⟨a, a, 0, q2, q4, q1, ⟨(ck_zero.1 q1).2.1, ha.fit⟩, ⟨(ck_zero.1 q1).2.1, ha.fit⟩, .inl ⟨rfl, rfl⟩, .inl ⟨rfl, rfl⟩⟩
      · exact absurd q1 q3
    · rcases merge_none a with ⟨q3, -⟩ | ⟨-, q4⟩
      · exact absurd q3 q1
      · exact ⟨Ot.none, Ot.none, ckE a, q2, q4, rfl, ⟨none_ok, fit_none⟩, ⟨none_ok, fit_none⟩, .inr q1, .inr q1⟩
  have HF3 := hide hf3
  have HF4 := hide hf4
  have HG := hide hg3
  have HH := hide hg4
  have HCG := hide hcg
  have HE : Hid ((e = 0 ∧ f = 0 ∧ AB = BA ∧ ckE AB = 0 ∧ AB.key = a.key ∧ na ≤ AB.st.seen.length ∧ nb ≤ AB.st.seen.length) ∨ (e ≠ 0 ∧ f ≠ 0)) := by
    by_cases he : e = 0
    · rw [he] at h1
      have q := merge_comm h1
      rw [h2] at q
      obtain ⟨q1, q2⟩ := Prod.mk.inj q
      have q3 := merge_len h1
      rw [← hna, ← hnb] at q3
      exact .inl ⟨he, q2, q1.symm, (merge_ok h1).2.2.2.2.2, (merge_ok h1).2.2.2.2.1, q3.1, q3.2⟩
    · refine .inr ⟨he, fun hf => he ?_⟩
      rw [hf] at h2
      have q := merge_comm h2
      rw [h1] at q
      exact (Prod.mk.inj q).2
  have HASS : Hid (e = 0 → i = 0 → j = 0 → r = 0 → XX = YY) := fun q1 q2 q3 q4 => by
    rw [q1] at h1
    rw [q2] at h5
    rw [q3] at h6
    rw [q4] at h7
    exact merge_assoc h1 h5 h6 h7
  have HM1 := hide h1
  have HM2 := hide h2
  have HM3 := hide h3
  have HM4 := hide h4
  have HM5 := hide h5
  have HM6 := hide h6
  have HM7 := hide h7
  clear hN hna hma hnb hmb hnc hmc ha hb hc h1 h2 h3 h4 h5 h6 h7 hcg hf3 hf4 hg3 hg4
  go_enter Try.func9, Try.ntmps9
  go_upto_region 3 with (first
    | ((with_reducible refine wpList_box_ob (by rfl) (.tmp 0) (by rfl) (some 3) (by rfl) (N) (unhide HN) a.key va na ma (by with_unfolding_all rfl) ?_); intro B1 HY1 HA1 HZ1; simp only [Act.put, List.setIfInBounds_toArray, List.set_cons_zero, List.set_cons_succ])
    | ((with_reducible refine wpList_box_ob (by rfl) (.tmp 1) (by rfl) (some 4) (by rfl) (N + 1) (unhide HZ1).symm b.key vb nb mb (by with_unfolding_all rfl) ?_); intro B2 HY2 HA2 HZ2; simp only [Act.put, List.setIfInBounds_toArray, List.set_cons_zero, List.set_cons_succ])
    | ((with_reducible refine wpList_box_ob (by rfl) (.tmp 2) (by rfl) (some 5) (by rfl) (N + 1 + 1) (unhide HZ2).symm c.key vc nc mc (by with_unfolding_all rfl) ?_); intro B3 HY3 HA3 HZ3; simp only [Act.put, List.setIfInBounds_toArray, List.set_cons_zero, List.set_cons_succ]; have HBU : Hid (Below N u B3) := ((unhide HA1).trans ((unhide HA2).mono (by omega))).trans ((unhide HA3).mono (by omega)); have HLA : Hid (Lo B3 (N) a va na ma) := ⟨(unhide HSA).below (unhide HU _ (unhide HBU)), ((unhide HA3).block (N) (by omega)).trans (((unhide HA2).block (N) (by omega)).trans (unhide HY1))⟩; have HLB : Hid (Lo B3 (N + 1) b vb nb mb) := ⟨(unhide HSB).below (unhide HU _ (unhide HBU)), ((unhide HA3).block (N + 1) (by omega)).trans (unhide HY2)⟩; have HLC : Hid (Lo B3 (N + 1 + 1) c vc nc mc) := ⟨(unhide HSC).below (unhide HU _ (unhide HBU)), unhide HY3⟩; have HNW : Hid (N ≤ B3.heap.size) := (by show N ≤ B3.heap.size; rw [unhide HZ3]; omega); clear HY1 HA1 HZ1 HY2 HA2 HZ2 HY3 HA3 HZ3)
    | (go_at_call 27; refine (lWorks B3).mono ?_; rintro e U1 ⟨rfl, hb⟩; replace HLA := hide ((unhide HLA).below hb); replace HLB := hide ((unhide HLB).below hb); replace HLC := hide ((unhide HLC).below hb); replace HBU : Hid (Below N u U1) := (unhide HBU).trans (hb.mono (unhide HNW)); replace HNW : Hid (N ≤ U1.heap.size) := Nat.le_trans (unhide HNW) hb.size; clear hb; obtain ⟨c0A, c1A, c2A⟩ := (unhide HLA).cells; obtain ⟨c0B, c1B, c2B⟩ := (unhide HLB).cells; obtain ⟨c0C, c1C, c2C⟩ := (unhide HLC).cells; )
    | fail)
  go_cut [7, 8] (fun sA sB wx => ∃ K x k l, sA = .pointer (some ⟨K, 0, none⟩) ∧ sB = .int .i64 e ∧ Hid (Lo wx K AB x k l ∧ Below U1.heap.size U1 wx))
  case first =>
    as_aux_lemma =>
      clear c0A c1A c2A c0B c1B c2B c0C c1C c2C
      refine wp_region_last (fun V => Below U1.heap.size U1 V) 10 hmix (belowDrew (Below.refl _ _)) fun hS => ?_
      have HSZ0 : Hid (Below U1.heap.size U1 U1.drew) := hS
      generalize U1.drew = Z0 at hS HSZ0 ⊢
      refine wpAnyL_take 0 24 (obV a.key va na ma) [] rfl rfl (by kernel_rfl) (by kernel_rfl) (by kernel_rfl) (by kernel_rfl) (by kernel_rfl) (fun _ _ _ h => h) (by rfl) (fun V hV => by obtain ⟨c0, c1, c2⟩ := ((unhide HLA).below hV).cells; simp only [obV]; go_simp) hS ?_
      simp only [Act.put, List.setIfInBounds_toArray, List.set_cons_zero, List.set_cons_succ]
      refine wpAnyL_take 2 26 (obV b.key vb nb mb) [] rfl rfl (by kernel_rfl) (by kernel_rfl) (by kernel_rfl) (by kernel_rfl) (by kernel_rfl) (fun _ _ _ h => h) (by rfl) (fun V hV => by obtain ⟨c0, c1, c2⟩ := ((unhide HLB).below hV).cells; simp only [obV]; go_simp) hS ?_
      simp only [Act.put, List.setIfInBounds_toArray, List.set_cons_zero, List.set_cons_succ]
      refine wpAnyL_two (i := 1) (j := 8) (by kernel_rfl) rfl rfl (by rfl) (by rfl) (fun K hK => ?_) (fun K hK => ?_)
      · refine wp_call_fn 13 _ _ (by rfl) #[obV a.key va na ma] (by with_unfolding_all rfl) entLT (some 25) (by rfl) _ (asV2 (kTwin Z0 ((unhide HLA).toSx.below (unhide HSZ0)))) ?_
        rintro _ Z1 ⟨xt1, rfl, hsx, hbx⟩
        have HT1 := hide hsx
        have HSZ1 : Hid (Below U1.heap.size U1 Z1) := (unhide HSZ0).trans (hbx.mono (unhide HSZ0).size)
        clear hsx hbx
        refine hK _ _ (fun _ => unhide HSZ1) ?_
        clear hK K
        simp only [Act.put, List.setIfInBounds_toArray, List.set_cons_zero, List.set_cons_succ]
        refine wpAnyL_two (i := 3) (j := 8) (by kernel_rfl) rfl rfl (by rfl) (by rfl) (fun K hK => ?_) (fun K hK => ?_)
        · refine wp_call_fn 13 _ _ (by rfl) #[obV b.key vb nb mb] (by with_unfolding_all rfl) entLT (some 27) (by rfl) _ (asV2 (kTwin Z1 ((unhide HLB).toSx.below (unhide HSZ1)))) ?_
          rintro _ Z2 ⟨xt2, rfl, hsx, hbx⟩
          have HT2 := hide hsx
          have HSZ2 : Hid (Below U1.heap.size U1 Z2) := (unhide HSZ1).trans (hbx.mono (unhide HSZ1).size)
          replace HT1 := hide ((unhide HT1).below hbx)
          clear hsx hbx
          refine hK _ _ (fun _ => unhide HSZ2) ?_
          clear hK K
          simp only [Act.put, List.setIfInBounds_toArray, List.set_cons_zero, List.set_cons_succ]
          refine wpAnyL_two (i := 4) (j := 8) (by kernel_rfl) rfl rfl (by rfl) (by rfl) (fun K hK => ?_) (fun K hK => ?_)
          · refine wp_call_fn 22 _ _ (by rfl) #[obV a.key xt1 na ma, obV b.key xt2 nb mb] (by with_unfolding_all rfl) entMg (some 28) (by rfl) _ (kMerge (unhide HT1) (unhide HT2) (unhide HM1)) ?_
            rintro _ Z3 ⟨xm, km, lm, rfl, hsx, hbx⟩
            have HMO := hide hsx
            have HSZ3 : Hid (Below U1.heap.size U1 Z3) := (unhide HSZ2).trans (hbx.mono (unhide HSZ2).size)
            replace HT1 := hide ((unhide HT1).below hbx)
            replace HT2 := hide ((unhide HT2).below hbx)
            clear hsx hbx
            refine hK _ _ (fun _ => unhide HSZ3) ?_
            clear hK K
            simp only [Act.put, List.setIfInBounds_toArray, List.set_cons_zero, List.set_cons_succ]
            refine wpAnyL_take 5 23 (.tuple #[obV AB.key xm km lm, .int .i64 e]) [] rfl rfl (by kernel_rfl) (by kernel_rfl) (by kernel_rfl) (by kernel_rfl) (by kernel_rfl) (fun _ _ _ h => h) (by rfl) (fun _ _ => by go_simp) (unhide HSZ3) ?_
            simp only [Act.put, List.setIfInBounds_toArray, List.set_cons_zero, List.set_cons_succ]
            refine wpAnyL_take 6 29 (obV AB.key xm km lm) [] rfl rfl (by kernel_rfl) (by kernel_rfl) (by kernel_rfl) (by kernel_rfl) (by kernel_rfl) (fun _ _ _ h => h) (by rfl) (fun _ _ => by go_simp) (unhide HSZ3) ?_
            simp only [Act.put, List.setIfInBounds_toArray, List.set_cons_zero, List.set_cons_succ]
            refine wpAnyL_take 7 30 (.int .i64 e) [] rfl rfl (by kernel_rfl) (by kernel_rfl) (by kernel_rfl) (by kernel_rfl) (by kernel_rfl) (fun _ _ _ h => h) (by rfl) (fun _ _ => by go_simp) (unhide HSZ3) ?_
            simp only [Act.put, List.setIfInBounds_toArray, List.set_cons_zero, List.set_cons_succ]
            refine wpAnyL_one (i := 8) (by kernel_rfl) rfl (by rfl) fun K hK => ?_
            refine wp_alloc_ob (by rfl) (some 7) (by rfl) ?_
            obtain ⟨Z4, hZ⟩ : ∃ Z, Z = Z3.alloc (.cells #[.string ⟨#[]⟩, .slice none 0 0, .slice none 0 0] 33) := ⟨_, rfl⟩
            obtain ⟨KN, hKN⟩ : ∃ K, K = Z3.heap.size := ⟨_, rfl⟩
            have HY : Hid (Z4.heap[KN]? = some (obRow ⟨#[]⟩ Sv.none 0 0)) := by rw [hZ, hKN]; exact heap_alloc_new _ _
            have hbx : Below Z3.heap.size Z3 Z4 := by rw [hZ]; exact (Below.refl _ _).alloc (Nat.le_refl _) _
            have HKG : Hid (U1.heap.size ≤ KN) := by rw [hKN]; exact (unhide HSZ3).size
            rw [← hZ, ← hKN]
            have HSZ4 : Hid (Below U1.heap.size U1 Z4) := (unhide HSZ3).trans (hbx.mono (unhide HSZ3).size)
            have HFAR : Hid (∀ g, xm.has AB.st.seen.length AB.st.sibs.length g → g ≠ KN) := fun g hg => by
              have h1 := ((unhide HMO).own.lt hg).2
              omega
            replace HT1 := hide ((unhide HT1).below hbx)
            replace HT2 := hide ((unhide HT2).below hbx)
            replace HMO := hide ((unhide HMO).below hbx)
            clear hZ hKN hbx
            refine hK _ _ (fun _ => unhide HSZ4) ?_
            clear hK K
            simp only [Act.put, List.setIfInBounds_toArray, List.set_cons_zero, List.set_cons_succ]
            refine wpAnyL_one (i := 9) (by kernel_rfl) rfl (by rfl) fun K hK => ?_
            refine wp_store_ob (.tmp 7) (.tmp 29) (by rfl) (by rfl) KN AB.key xm km lm (by with_unfolding_all rfl) (by with_unfolding_all rfl) _ _ _ _ (unhide HY) ?_
            obtain ⟨Z5, hZ⟩ : ∃ Z, Z = Z4.setRow KN #[.string AB.key, .slice xm.sa km xm.sc, .slice xm.ba lm xm.bc] := ⟨_, rfl⟩
            have HYY : Hid (Z5.heap[KN]? = some (obRow AB.key xm km lm)) := by rw [hZ]; exact heapRow_same (unhide HY) _
            have HSE : Hid (Below U1.heap.size U1 Z5) := by rw [hZ]; exact belowRow (unhide HSZ4) (unhide HKG) _
            have HLN : Hid (Lo Z5 KN AB xm km lm) := ⟨⟨((unhide HMO).own.keep fun g hg => by rw [hZ]; exact heapRow_other _ _ _ _ (unhide HFAR g hg)).at (unhide HF1).2 (unhide HF1).1, (unhide HMO).ek, (unhide HMO).el⟩, unhide HYY⟩
            rw [← hZ]
            clear hZ
            refine hK _ _ (fun _ => unhide HSE) ?_
            clear hK K
            refine wpAnyL_one (i := 10) (by kernel_rfl) rfl (by rfl) fun K hK => ?_
            refine wp_val (.int .i64 e) (by go_simp) (some 8) (by rfl) ?_
            refine hK _ _ (fun _ => unhide HSE) ?_
            clear hK K
            simp only [Act.put, List.setIfInBounds_toArray, List.set_cons_zero, List.set_cons_succ]
            refine wpAnyL_done (by kernel_rfl) ?_ _
            go_wp2_with fail
            go_meet
            exact ⟨KN, xm, km, lm, rfl, rfl, ⟨unhide HLN, unhide HSE⟩⟩
          · refine wp_alloc_ob (by rfl) (some 7) (by rfl) ?_
            obtain ⟨Z3, hZ⟩ : ∃ Z, Z = Z2.alloc (.cells #[.string ⟨#[]⟩, .slice none 0 0, .slice none 0 0] 33) := ⟨_, rfl⟩
            obtain ⟨KN, hKN⟩ : ∃ K, K = Z2.heap.size := ⟨_, rfl⟩
            have HY : Hid (Z3.heap[KN]? = some (obRow ⟨#[]⟩ Sv.none 0 0)) := by rw [hZ, hKN]; exact heap_alloc_new _ _
            have hbx : Below Z2.heap.size Z2 Z3 := by rw [hZ]; exact (Below.refl _ _).alloc (Nat.le_refl _) _
            have HKG : Hid (U1.heap.size ≤ KN) := by rw [hKN]; exact (unhide HSZ2).size
            rw [← hZ, ← hKN]
            have HSZ3 : Hid (Below U1.heap.size U1 Z3) := (unhide HSZ2).trans (hbx.mono (unhide HSZ2).size)
            replace HT1 := hide ((unhide HT1).below hbx)
            replace HT2 := hide ((unhide HT2).below hbx)
            clear hZ hKN hbx
            refine hK _ _ (fun _ => unhide HSZ3) ?_
            clear hK K
            simp only [Act.put, List.setIfInBounds_toArray, List.set_cons_zero, List.set_cons_succ]
            refine wpAnyL_one (i := 4) (by kernel_rfl) rfl (by rfl) fun K hK => ?_
            have HKB : Hid (KN < Z3.heap.size) := heap_lt (unhide HY)
            refine wp_call_fn 22 _ _ (by rfl) #[obV a.key xt1 na ma, obV b.key xt2 nb mb] (by with_unfolding_all rfl) entMg (some 28) (by rfl) _ (kMerge (unhide HT1) (unhide HT2) (unhide HM1)) ?_
            rintro _ Z4 ⟨xm, km, lm, rfl, hsx, hbx⟩
            have HMO := hide hsx
            have HSZ4 : Hid (Below U1.heap.size U1 Z4) := (unhide HSZ3).trans (hbx.mono (unhide HSZ3).size)
            replace HT1 := hide ((unhide HT1).below hbx)
            replace HT2 := hide ((unhide HT2).below hbx)
            replace HY := hide (box_below (unhide HY) hbx)
            have HFAR : Hid (∀ g, xm.has AB.st.seen.length AB.st.sibs.length g → g ≠ KN) := fun g hg => by
              have h1 := ((unhide HMO).own.lt hg).1
              have h2 := unhide HKB
              omega
            clear hsx hbx
            refine hK _ _ (fun _ => unhide HSZ4) ?_
            clear hK K
            simp only [Act.put, List.setIfInBounds_toArray, List.set_cons_zero, List.set_cons_succ]
            refine wpAnyL_take 5 23 (.tuple #[obV AB.key xm km lm, .int .i64 e]) [] rfl rfl (by kernel_rfl) (by kernel_rfl) (by kernel_rfl) (by kernel_rfl) (by kernel_rfl) (fun _ _ _ h => h) (by rfl) (fun _ _ => by go_simp) (unhide HSZ4) ?_
            simp only [Act.put, List.setIfInBounds_toArray, List.set_cons_zero, List.set_cons_succ]
            refine wpAnyL_take 6 29 (obV AB.key xm km lm) [] rfl rfl (by kernel_rfl) (by kernel_rfl) (by kernel_rfl) (by kernel_rfl) (by kernel_rfl) (fun _ _ _ h => h) (by rfl) (fun _ _ => by go_simp) (unhide HSZ4) ?_
            simp only [Act.put, List.setIfInBounds_toArray, List.set_cons_zero, List.set_cons_succ]
            refine wpAnyL_take 7 30 (.int .i64 e) [] rfl rfl (by kernel_rfl) (by kernel_rfl) (by kernel_rfl) (by kernel_rfl) (by kernel_rfl) (fun _ _ _ h => h) (by rfl) (fun _ _ => by go_simp) (unhide HSZ4) ?_
            simp only [Act.put, List.setIfInBounds_toArray, List.set_cons_zero, List.set_cons_succ]
            refine wpAnyL_one (i := 9) (by kernel_rfl) rfl (by rfl) fun K hK => ?_
            refine wp_store_ob (.tmp 7) (.tmp 29) (by rfl) (by rfl) KN AB.key xm km lm (by with_unfolding_all rfl) (by with_unfolding_all rfl) _ _ _ _ (unhide HY) ?_
            obtain ⟨Z5, hZ⟩ : ∃ Z, Z = Z4.setRow KN #[.string AB.key, .slice xm.sa km xm.sc, .slice xm.ba lm xm.bc] := ⟨_, rfl⟩
            have HYY : Hid (Z5.heap[KN]? = some (obRow AB.key xm km lm)) := by rw [hZ]; exact heapRow_same (unhide HY) _
            have HSE : Hid (Below U1.heap.size U1 Z5) := by rw [hZ]; exact belowRow (unhide HSZ4) (unhide HKG) _
            have HLN : Hid (Lo Z5 KN AB xm km lm) := ⟨⟨((unhide HMO).own.keep fun g hg => by rw [hZ]; exact heapRow_other _ _ _ _ (unhide HFAR g hg)).at (unhide HF1).2 (unhide HF1).1, (unhide HMO).ek, (unhide HMO).el⟩, unhide HYY⟩
            rw [← hZ]
            clear hZ
            refine hK _ _ (fun _ => unhide HSE) ?_
            clear hK K
            refine wpAnyL_one (i := 10) (by kernel_rfl) rfl (by rfl) fun K hK => ?_
            refine wp_val (.int .i64 e) (by go_simp) (some 8) (by rfl) ?_
            refine hK _ _ (fun _ => unhide HSE) ?_
            clear hK K
            simp only [Act.put, List.setIfInBounds_toArray, List.set_cons_zero, List.set_cons_succ]
            refine wpAnyL_done (by kernel_rfl) ?_ _
            go_wp2_with fail
            go_meet
            exact ⟨KN, xm, km, lm, rfl, rfl, ⟨unhide HLN, unhide HSE⟩⟩
        · refine wp_alloc_ob (by rfl) (some 7) (by rfl) ?_
          obtain ⟨Z2, hZ⟩ : ∃ Z, Z = Z1.alloc (.cells #[.string ⟨#[]⟩, .slice none 0 0, .slice none 0 0] 33) := ⟨_, rfl⟩
          obtain ⟨KN, hKN⟩ : ∃ K, K = Z1.heap.size := ⟨_, rfl⟩
          have HY : Hid (Z2.heap[KN]? = some (obRow ⟨#[]⟩ Sv.none 0 0)) := by rw [hZ, hKN]; exact heap_alloc_new _ _
          have hbx : Below Z1.heap.size Z1 Z2 := by rw [hZ]; exact (Below.refl _ _).alloc (Nat.le_refl _) _
          have HKG : Hid (U1.heap.size ≤ KN) := by rw [hKN]; exact (unhide HSZ1).size
          rw [← hZ, ← hKN]
          have HSZ2 : Hid (Below U1.heap.size U1 Z2) := (unhide HSZ1).trans (hbx.mono (unhide HSZ1).size)
          replace HT1 := hide ((unhide HT1).below hbx)
          clear hZ hKN hbx
          refine hK _ _ (fun _ => unhide HSZ2) ?_
          clear hK K
          simp only [Act.put, List.setIfInBounds_toArray, List.set_cons_zero, List.set_cons_succ]
          refine wpAnyL_one (i := 3) (by kernel_rfl) rfl (by rfl) fun K hK => ?_
          refine wp_call_fn 13 _ _ (by rfl) #[obV b.key vb nb mb] (by with_unfolding_all rfl) entLT (some 27) (by rfl) _ (asV2 (kTwin Z2 ((unhide HLB).toSx.below (unhide HSZ2)))) ?_
          rintro _ Z3 ⟨xt2, rfl, hsx, hbx⟩
          have HT2 := hide hsx
          have HSZ3 : Hid (Below U1.heap.size U1 Z3) := (unhide HSZ2).trans (hbx.mono (unhide HSZ2).size)
          replace HT1 := hide ((unhide HT1).below hbx)
          replace HY := hide (box_below (unhide HY) hbx)
          clear hsx hbx
          refine hK _ _ (fun _ => unhide HSZ3) ?_
          clear hK K
          simp only [Act.put, List.setIfInBounds_toArray, List.set_cons_zero, List.set_cons_succ]
          refine wpAnyL_one (i := 4) (by kernel_rfl) rfl (by rfl) fun K hK => ?_
          have HKB : Hid (KN < Z3.heap.size) := heap_lt (unhide HY)
          refine wp_call_fn 22 _ _ (by rfl) #[obV a.key xt1 na ma, obV b.key xt2 nb mb] (by with_unfolding_all rfl) entMg (some 28) (by rfl) _ (kMerge (unhide HT1) (unhide HT2) (unhide HM1)) ?_
          rintro _ Z4 ⟨xm, km, lm, rfl, hsx, hbx⟩
          have HMO := hide hsx
          have HSZ4 : Hid (Below U1.heap.size U1 Z4) := (unhide HSZ3).trans (hbx.mono (unhide HSZ3).size)
          replace HT1 := hide ((unhide HT1).below hbx)
          replace HT2 := hide ((unhide HT2).below hbx)
          replace HY := hide (box_below (unhide HY) hbx)
          have HFAR : Hid (∀ g, xm.has AB.st.seen.length AB.st.sibs.length g → g ≠ KN) := fun g hg => by
            have h1 := ((unhide HMO).own.lt hg).1
            have h2 := unhide HKB
            omega
          clear hsx hbx
          refine hK _ _ (fun _ => unhide HSZ4) ?_
          clear hK K
          simp only [Act.put, List.setIfInBounds_toArray, List.set_cons_zero, List.set_cons_succ]
          refine wpAnyL_take 5 23 (.tuple #[obV AB.key xm km lm, .int .i64 e]) [] rfl rfl (by kernel_rfl) (by kernel_rfl) (by kernel_rfl) (by kernel_rfl) (by kernel_rfl) (fun _ _ _ h => h) (by rfl) (fun _ _ => by go_simp) (unhide HSZ4) ?_
          simp only [Act.put, List.setIfInBounds_toArray, List.set_cons_zero, List.set_cons_succ]
          refine wpAnyL_take 6 29 (obV AB.key xm km lm) [] rfl rfl (by kernel_rfl) (by kernel_rfl) (by kernel_rfl) (by kernel_rfl) (by kernel_rfl) (fun _ _ _ h => h) (by rfl) (fun _ _ => by go_simp) (unhide HSZ4) ?_
          simp only [Act.put, List.setIfInBounds_toArray, List.set_cons_zero, List.set_cons_succ]
          refine wpAnyL_take 7 30 (.int .i64 e) [] rfl rfl (by kernel_rfl) (by kernel_rfl) (by kernel_rfl) (by kernel_rfl) (by kernel_rfl) (fun _ _ _ h => h) (by rfl) (fun _ _ => by go_simp) (unhide HSZ4) ?_
          simp only [Act.put, List.setIfInBounds_toArray, List.set_cons_zero, List.set_cons_succ]
          refine wpAnyL_one (i := 9) (by kernel_rfl) rfl (by rfl) fun K hK => ?_
          refine wp_store_ob (.tmp 7) (.tmp 29) (by rfl) (by rfl) KN AB.key xm km lm (by with_unfolding_all rfl) (by with_unfolding_all rfl) _ _ _ _ (unhide HY) ?_
          obtain ⟨Z5, hZ⟩ : ∃ Z, Z = Z4.setRow KN #[.string AB.key, .slice xm.sa km xm.sc, .slice xm.ba lm xm.bc] := ⟨_, rfl⟩
          have HYY : Hid (Z5.heap[KN]? = some (obRow AB.key xm km lm)) := by rw [hZ]; exact heapRow_same (unhide HY) _
          have HSE : Hid (Below U1.heap.size U1 Z5) := by rw [hZ]; exact belowRow (unhide HSZ4) (unhide HKG) _
          have HLN : Hid (Lo Z5 KN AB xm km lm) := ⟨⟨((unhide HMO).own.keep fun g hg => by rw [hZ]; exact heapRow_other _ _ _ _ (unhide HFAR g hg)).at (unhide HF1).2 (unhide HF1).1, (unhide HMO).ek, (unhide HMO).el⟩, unhide HYY⟩
          rw [← hZ]
          clear hZ
          refine hK _ _ (fun _ => unhide HSE) ?_
          clear hK K
          refine wpAnyL_one (i := 10) (by kernel_rfl) rfl (by rfl) fun K hK => ?_
          refine wp_val (.int .i64 e) (by go_simp) (some 8) (by rfl) ?_
          refine hK _ _ (fun _ => unhide HSE) ?_
          clear hK K
          simp only [Act.put, List.setIfInBounds_toArray, List.set_cons_zero, List.set_cons_succ]
          refine wpAnyL_done (by kernel_rfl) ?_ _
          go_wp2_with fail
          go_meet
          exact ⟨KN, xm, km, lm, rfl, rfl, ⟨unhide HLN, unhide HSE⟩⟩
      · refine wp_alloc_ob (by rfl) (some 7) (by rfl) ?_
        obtain ⟨Z1, hZ⟩ : ∃ Z, Z = Z0.alloc (.cells #[.string ⟨#[]⟩, .slice none 0 0, .slice none 0 0] 33) := ⟨_, rfl⟩
        obtain ⟨KN, hKN⟩ : ∃ K, K = Z0.heap.size := ⟨_, rfl⟩
        have HY : Hid (Z1.heap[KN]? = some (obRow ⟨#[]⟩ Sv.none 0 0)) := by rw [hZ, hKN]; exact heap_alloc_new _ _
        have hbx : Below Z0.heap.size Z0 Z1 := by rw [hZ]; exact (Below.refl _ _).alloc (Nat.le_refl _) _
        have HKG : Hid (U1.heap.size ≤ KN) := by rw [hKN]; exact (unhide HSZ0).size
        rw [← hZ, ← hKN]
        have HSZ1 : Hid (Below U1.heap.size U1 Z1) := (unhide HSZ0).trans (hbx.mono (unhide HSZ0).size)
        clear hZ hKN hbx
        refine hK _ _ (fun _ => unhide HSZ1) ?_
        clear hK K
        simp only [Act.put, List.setIfInBounds_toArray, List.set_cons_zero, List.set_cons_succ]
        refine wpAnyL_one (i := 1) (by kernel_rfl) rfl (by rfl) fun K hK => ?_
        refine wp_call_fn 13 _ _ (by rfl) #[obV a.key va na ma] (by with_unfolding_all rfl) entLT (some 25) (by rfl) _ (asV2 (kTwin Z1 ((unhide HLA).toSx.below (unhide HSZ1)))) ?_
        rintro _ Z2 ⟨xt1, rfl, hsx, hbx⟩
        have HT1 := hide hsx
        have HSZ2 : Hid (Below U1.heap.size U1 Z2) := (unhide HSZ1).trans (hbx.mono (unhide HSZ1).size)
        replace HY := hide (box_below (unhide HY) hbx)
        clear hsx hbx
        refine hK _ _ (fun _ => unhide HSZ2) ?_
        clear hK K
        simp only [Act.put, List.setIfInBounds_toArray, List.set_cons_zero, List.set_cons_succ]
        refine wpAnyL_one (i := 3) (by kernel_rfl) rfl (by rfl) fun K hK => ?_
        refine wp_call_fn 13 _ _ (by rfl) #[obV b.key vb nb mb] (by with_unfolding_all rfl) entLT (some 27) (by rfl) _ (asV2 (kTwin Z2 ((unhide HLB).toSx.below (unhide HSZ2)))) ?_
        rintro _ Z3 ⟨xt2, rfl, hsx, hbx⟩
        have HT2 := hide hsx
        have HSZ3 : Hid (Below U1.heap.size U1 Z3) := (unhide HSZ2).trans (hbx.mono (unhide HSZ2).size)
        replace HT1 := hide ((unhide HT1).below hbx)
        replace HY := hide (box_below (unhide HY) hbx)
        clear hsx hbx
        refine hK _ _ (fun _ => unhide HSZ3) ?_
        clear hK K
        simp only [Act.put, List.setIfInBounds_toArray, List.set_cons_zero, List.set_cons_succ]
        refine wpAnyL_one (i := 4) (by kernel_rfl) rfl (by rfl) fun K hK => ?_
        have HKB : Hid (KN < Z3.heap.size) := heap_lt (unhide HY)
        refine wp_call_fn 22 _ _ (by rfl) #[obV a.key xt1 na ma, obV b.key xt2 nb mb] (by with_unfolding_all rfl) entMg (some 28) (by rfl) _ (kMerge (unhide HT1) (unhide HT2) (unhide HM1)) ?_
        rintro _ Z4 ⟨xm, km, lm, rfl, hsx, hbx⟩
        have HMO := hide hsx
        have HSZ4 : Hid (Below U1.heap.size U1 Z4) := (unhide HSZ3).trans (hbx.mono (unhide HSZ3).size)
        replace HT1 := hide ((unhide HT1).below hbx)
        replace HT2 := hide ((unhide HT2).below hbx)
        replace HY := hide (box_below (unhide HY) hbx)
        have HFAR : Hid (∀ g, xm.has AB.st.seen.length AB.st.sibs.length g → g ≠ KN) := fun g hg => by
          have h1 := ((unhide HMO).own.lt hg).1
          have h2 := unhide HKB
          omega
        clear hsx hbx
        refine hK _ _ (fun _ => unhide HSZ4) ?_
        clear hK K
        simp only [Act.put, List.setIfInBounds_toArray, List.set_cons_zero, List.set_cons_succ]
        refine wpAnyL_take 5 23 (.tuple #[obV AB.key xm km lm, .int .i64 e]) [] rfl rfl (by kernel_rfl) (by kernel_rfl) (by kernel_rfl) (by kernel_rfl) (by kernel_rfl) (fun _ _ _ h => h) (by rfl) (fun _ _ => by go_simp) (unhide HSZ4) ?_
        simp only [Act.put, List.setIfInBounds_toArray, List.set_cons_zero, List.set_cons_succ]
        refine wpAnyL_take 6 29 (obV AB.key xm km lm) [] rfl rfl (by kernel_rfl) (by kernel_rfl) (by kernel_rfl) (by kernel_rfl) (by kernel_rfl) (fun _ _ _ h => h) (by rfl) (fun _ _ => by go_simp) (unhide HSZ4) ?_
        simp only [Act.put, List.setIfInBounds_toArray, List.set_cons_zero, List.set_cons_succ]
        refine wpAnyL_take 7 30 (.int .i64 e) [] rfl rfl (by kernel_rfl) (by kernel_rfl) (by kernel_rfl) (by kernel_rfl) (by kernel_rfl) (fun _ _ _ h => h) (by rfl) (fun _ _ => by go_simp) (unhide HSZ4) ?_
        simp only [Act.put, List.setIfInBounds_toArray, List.set_cons_zero, List.set_cons_succ]
        refine wpAnyL_one (i := 9) (by kernel_rfl) rfl (by rfl) fun K hK => ?_
        refine wp_store_ob (.tmp 7) (.tmp 29) (by rfl) (by rfl) KN AB.key xm km lm (by with_unfolding_all rfl) (by with_unfolding_all rfl) _ _ _ _ (unhide HY) ?_
        obtain ⟨Z5, hZ⟩ : ∃ Z, Z = Z4.setRow KN #[.string AB.key, .slice xm.sa km xm.sc, .slice xm.ba lm xm.bc] := ⟨_, rfl⟩
        have HYY : Hid (Z5.heap[KN]? = some (obRow AB.key xm km lm)) := by rw [hZ]; exact heapRow_same (unhide HY) _
        have HSE : Hid (Below U1.heap.size U1 Z5) := by rw [hZ]; exact belowRow (unhide HSZ4) (unhide HKG) _
        have HLN : Hid (Lo Z5 KN AB xm km lm) := ⟨⟨((unhide HMO).own.keep fun g hg => by rw [hZ]; exact heapRow_other _ _ _ _ (unhide HFAR g hg)).at (unhide HF1).2 (unhide HF1).1, (unhide HMO).ek, (unhide HMO).el⟩, unhide HYY⟩
        rw [← hZ]
        clear hZ
        refine hK _ _ (fun _ => unhide HSE) ?_
        clear hK K
        refine wpAnyL_one (i := 10) (by kernel_rfl) rfl (by rfl) fun K hK => ?_
        refine wp_val (.int .i64 e) (by go_simp) (some 8) (by rfl) ?_
        refine hK _ _ (fun _ => unhide HSE) ?_
        clear hK K
        simp only [Act.put, List.setIfInBounds_toArray, List.set_cons_zero, List.set_cons_succ]
        refine wpAnyL_done (by kernel_rfl) ?_ _
        go_wp2_with fail
        go_meet
        exact ⟨KN, xm, km, lm, rfl, rfl, ⟨unhide HLN, unhide HSE⟩⟩
  case rest =>
    obtain ⟨KD, xD, kD, lD, rfl, rfl, HC⟩ := hcut
    obtain ⟨X1, hW⟩ : ∃ W, W = wc := ⟨_, rfl⟩
    subst hW
    have hb := (unhide HC).2
    clear c0A c1A c2A c0B c1B c2B c0C c1C c2C
    replace HLA := hide ((unhide HLA).below hb)
    replace HLB := hide ((unhide HLB).below hb)
    replace HLC := hide ((unhide HLC).below hb)
    have HLD := hide (unhide HC).1
    replace HBU : Hid (Below N u X1) := (unhide HBU).trans (hb.mono (unhide HNW))
    replace HNW : Hid (N ≤ X1.heap.size) := Nat.le_trans (unhide HNW) hb.size
    clear hb HC
    obtain ⟨c0A, c1A, c2A⟩ := (unhide HLA).cells
    obtain ⟨c0B, c1B, c2B⟩ := (unhide HLB).cells
    obtain ⟨c0C, c1C, c2C⟩ := (unhide HLC).cells
    obtain ⟨c0D, c1D, c2D⟩ := (unhide HLD).cells
    go_upto_region 4 with fail
    go_cut [9, 10] (fun sA sB wx => ∃ K x k l, sA = .pointer (some ⟨K, 0, none⟩) ∧ sB = .int .i64 f ∧ Hid (Lo wx K BA x k l ∧ Below X1.heap.size X1 wx))
    case first =>
      as_aux_lemma =>
        clear c0A c1A c2A c0B c1B c2B c0C c1C c2C c0D c1D c2D
        refine wp_region_last (fun V => Below X1.heap.size X1 V) 10 hmix (belowDrew (Below.refl _ _)) fun hS => ?_
        have HSZ0 : Hid (Below X1.heap.size X1 X1.drew) := hS
        generalize X1.drew = Z0 at hS HSZ0 ⊢
        refine wpAnyL_take 0 32 (obV b.key vb nb mb) [] rfl rfl (by kernel_rfl) (by kernel_rfl) (by kernel_rfl) (by kernel_rfl) (by kernel_rfl) (fun _ _ _ h => h) (by rfl) (fun V hV => by obtain ⟨c0, c1, c2⟩ := ((unhide HLB).below hV).cells; simp only [obV]; go_simp) hS ?_
        simp only [Act.put, List.setIfInBounds_toArray, List.set_cons_zero, List.set_cons_succ]
        refine wpAnyL_take 2 34 (obV a.key va na ma) [] rfl rfl (by kernel_rfl) (by kernel_rfl) (by kernel_rfl) (by kernel_rfl) (by kernel_rfl) (fun _ _ _ h => h) (by rfl) (fun V hV => by obtain ⟨c0, c1, c2⟩ := ((unhide HLA).below hV).cells; simp only [obV]; go_simp) hS ?_
        simp only [Act.put, List.setIfInBounds_toArray, List.set_cons_zero, List.set_cons_succ]
        refine wpAnyL_two (i := 1) (j := 8) (by kernel_rfl) rfl rfl (by rfl) (by rfl) (fun K hK => ?_) (fun K hK => ?_)
        · refine wp_call_fn 13 _ _ (by rfl) #[obV b.key vb nb mb] (by with_unfolding_all rfl) entLT (some 33) (by rfl) _ (asV2 (kTwin Z0 ((unhide HLB).toSx.below (unhide HSZ0)))) ?_
          rintro _ Z1 ⟨xt1, rfl, hsx, hbx⟩
          have HT1 := hide hsx
          have HSZ1 : Hid (Below X1.heap.size X1 Z1) := (unhide HSZ0).trans (hbx.mono (unhide HSZ0).size)
          clear hsx hbx
          refine hK _ _ (fun _ => unhide HSZ1) ?_
          clear hK K
          simp only [Act.put, List.setIfInBounds_toArray, List.set_cons_zero, List.set_cons_succ]
          refine wpAnyL_two (i := 3) (j := 8) (by kernel_rfl) rfl rfl (by rfl) (by rfl) (fun K hK => ?_) (fun K hK => ?_)
          · refine wp_call_fn 13 _ _ (by rfl) #[obV a.key va na ma] (by with_unfolding_all rfl) entLT (some 35) (by rfl) _ (asV2 (kTwin Z1 ((unhide HLA).toSx.below (unhide HSZ1)))) ?_
            rintro _ Z2 ⟨xt2, rfl, hsx, hbx⟩
            have HT2 := hide hsx
            have HSZ2 : Hid (Below X1.heap.size X1 Z2) := (unhide HSZ1).trans (hbx.mono (unhide HSZ1).size)
            replace HT1 := hide ((unhide HT1).below hbx)
            clear hsx hbx
            refine hK _ _ (fun _ => unhide HSZ2) ?_
            clear hK K
            simp only [Act.put, List.setIfInBounds_toArray, List.set_cons_zero, List.set_cons_succ]
            refine wpAnyL_two (i := 4) (j := 8) (by kernel_rfl) rfl rfl (by rfl) (by rfl) (fun K hK => ?_) (fun K hK => ?_)
            · refine wp_call_fn 22 _ _ (by rfl) #[obV b.key xt1 nb mb, obV a.key xt2 na ma] (by with_unfolding_all rfl) entMg (some 36) (by rfl) _ (kMerge (unhide HT1) (unhide HT2) (unhide HM2)) ?_
              rintro _ Z3 ⟨xm, km, lm, rfl, hsx, hbx⟩
              have HMO := hide hsx
              have HSZ3 : Hid (Below X1.heap.size X1 Z3) := (unhide HSZ2).trans (hbx.mono (unhide HSZ2).size)
              replace HT1 := hide ((unhide HT1).below hbx)
              replace HT2 := hide ((unhide HT2).below hbx)
              clear hsx hbx
              refine hK _ _ (fun _ => unhide HSZ3) ?_
              clear hK K
              simp only [Act.put, List.setIfInBounds_toArray, List.set_cons_zero, List.set_cons_succ]
              refine wpAnyL_take 5 31 (.tuple #[obV BA.key xm km lm, .int .i64 f]) [] rfl rfl (by kernel_rfl) (by kernel_rfl) (by kernel_rfl) (by kernel_rfl) (by kernel_rfl) (fun _ _ _ h => h) (by rfl) (fun _ _ => by go_simp) (unhide HSZ3) ?_
              simp only [Act.put, List.setIfInBounds_toArray, List.set_cons_zero, List.set_cons_succ]
              refine wpAnyL_take 6 37 (obV BA.key xm km lm) [] rfl rfl (by kernel_rfl) (by kernel_rfl) (by kernel_rfl) (by kernel_rfl) (by kernel_rfl) (fun _ _ _ h => h) (by rfl) (fun _ _ => by go_simp) (unhide HSZ3) ?_
              simp only [Act.put, List.setIfInBounds_toArray, List.set_cons_zero, List.set_cons_succ]
              refine wpAnyL_take 7 38 (.int .i64 f) [] rfl rfl (by kernel_rfl) (by kernel_rfl) (by kernel_rfl) (by kernel_rfl) (by kernel_rfl) (fun _ _ _ h => h) (by rfl) (fun _ _ => by go_simp) (unhide HSZ3) ?_
              simp only [Act.put, List.setIfInBounds_toArray, List.set_cons_zero, List.set_cons_succ]
              refine wpAnyL_one (i := 8) (by kernel_rfl) rfl (by rfl) fun K hK => ?_
              refine wp_alloc_ob (by rfl) (some 9) (by rfl) ?_
              obtain ⟨Z4, hZ⟩ : ∃ Z, Z = Z3.alloc (.cells #[.string ⟨#[]⟩, .slice none 0 0, .slice none 0 0] 33) := ⟨_, rfl⟩
              obtain ⟨KN, hKN⟩ : ∃ K, K = Z3.heap.size := ⟨_, rfl⟩
              have HY : Hid (Z4.heap[KN]? = some (obRow ⟨#[]⟩ Sv.none 0 0)) := by rw [hZ, hKN]; exact heap_alloc_new _ _
              have hbx : Below Z3.heap.size Z3 Z4 := by rw [hZ]; exact (Below.refl _ _).alloc (Nat.le_refl _) _
              have HKG : Hid (X1.heap.size ≤ KN) := by rw [hKN]; exact (unhide HSZ3).size
              rw [← hZ, ← hKN]
              have HSZ4 : Hid (Below X1.heap.size X1 Z4) := (unhide HSZ3).trans (hbx.mono (unhide HSZ3).size)
              have HFAR : Hid (∀ g, xm.has BA.st.seen.length BA.st.sibs.length g → g ≠ KN) := fun g hg => by
                have h1 := ((unhide HMO).own.lt hg).2
                omega
              replace HT1 := hide ((unhide HT1).below hbx)
              replace HT2 := hide ((unhide HT2).below hbx)
              replace HMO := hide ((unhide HMO).below hbx)
              clear hZ hKN hbx
              refine hK _ _ (fun _ => unhide HSZ4) ?_
              clear hK K
              simp only [Act.put, List.setIfInBounds_toArray, List.set_cons_zero, List.set_cons_succ]
              refine wpAnyL_one (i := 9) (by kernel_rfl) rfl (by rfl) fun K hK => ?_
              refine wp_store_ob (.tmp 9) (.tmp 37) (by rfl) (by rfl) KN BA.key xm km lm (by with_unfolding_all rfl) (by with_unfolding_all rfl) _ _ _ _ (unhide HY) ?_
              obtain ⟨Z5, hZ⟩ : ∃ Z, Z = Z4.setRow KN #[.string BA.key, .slice xm.sa km xm.sc, .slice xm.ba lm xm.bc] := ⟨_, rfl⟩
              have HYY : Hid (Z5.heap[KN]? = some (obRow BA.key xm km lm)) := by rw [hZ]; exact heapRow_same (unhide HY) _
              have HSE : Hid (Below X1.heap.size X1 Z5) := by rw [hZ]; exact belowRow (unhide HSZ4) (unhide HKG) _
              have HLN : Hid (Lo Z5 KN BA xm km lm) := ⟨⟨((unhide HMO).own.keep fun g hg => by rw [hZ]; exact heapRow_other _ _ _ _ (unhide HFAR g hg)).at (unhide HF2).2 (unhide HF2).1, (unhide HMO).ek, (unhide HMO).el⟩, unhide HYY⟩
              rw [← hZ]
              clear hZ
              refine hK _ _ (fun _ => unhide HSE) ?_
              clear hK K
              refine wpAnyL_one (i := 10) (by kernel_rfl) rfl (by rfl) fun K hK => ?_
              refine wp_val (.int .i64 f) (by go_simp) (some 10) (by rfl) ?_
              refine hK _ _ (fun _ => unhide HSE) ?_
              clear hK K
              simp only [Act.put, List.setIfInBounds_toArray, List.set_cons_zero, List.set_cons_succ]
              refine wpAnyL_done (by kernel_rfl) ?_ _
              go_wp2_with fail
              go_meet
              exact ⟨KN, xm, km, lm, rfl, rfl, ⟨unhide HLN, unhide HSE⟩⟩
            · refine wp_alloc_ob (by rfl) (some 9) (by rfl) ?_
              obtain ⟨Z3, hZ⟩ : ∃ Z, Z = Z2.alloc (.cells #[.string ⟨#[]⟩, .slice none 0 0, .slice none 0 0] 33) := ⟨_, rfl⟩
              obtain ⟨KN, hKN⟩ : ∃ K, K = Z2.heap.size := ⟨_, rfl⟩
              have HY : Hid (Z3.heap[KN]? = some (obRow ⟨#[]⟩ Sv.none 0 0)) := by rw [hZ, hKN]; exact heap_alloc_new _ _
              have hbx : Below Z2.heap.size Z2 Z3 := by rw [hZ]; exact (Below.refl _ _).alloc (Nat.le_refl _) _
              have HKG : Hid (X1.heap.size ≤ KN) := by rw [hKN]; exact (unhide HSZ2).size
              rw [← hZ, ← hKN]
              have HSZ3 : Hid (Below X1.heap.size X1 Z3) := (unhide HSZ2).trans (hbx.mono (unhide HSZ2).size)
              replace HT1 := hide ((unhide HT1).below hbx)
              replace HT2 := hide ((unhide HT2).below hbx)
              clear hZ hKN hbx
              refine hK _ _ (fun _ => unhide HSZ3) ?_
              clear hK K
              simp only [Act.put, List.setIfInBounds_toArray, List.set_cons_zero, List.set_cons_succ]
              refine wpAnyL_one (i := 4) (by kernel_rfl) rfl (by rfl) fun K hK => ?_
              have HKB : Hid (KN < Z3.heap.size) := heap_lt (unhide HY)
              refine wp_call_fn 22 _ _ (by rfl) #[obV b.key xt1 nb mb, obV a.key xt2 na ma] (by with_unfolding_all rfl) entMg (some 36) (by rfl) _ (kMerge (unhide HT1) (unhide HT2) (unhide HM2)) ?_
              rintro _ Z4 ⟨xm, km, lm, rfl, hsx, hbx⟩
              have HMO := hide hsx
              have HSZ4 : Hid (Below X1.heap.size X1 Z4) := (unhide HSZ3).trans (hbx.mono (unhide HSZ3).size)
              replace HT1 := hide ((unhide HT1).below hbx)
              replace HT2 := hide ((unhide HT2).below hbx)
              replace HY := hide (box_below (unhide HY) hbx)
              have HFAR : Hid (∀ g, xm.has BA.st.seen.length BA.st.sibs.length g → g ≠ KN) := fun g hg => by
                have h1 := ((unhide HMO).own.lt hg).1
                have h2 := unhide HKB
                omega
              clear hsx hbx
              refine hK _ _ (fun _ => unhide HSZ4) ?_
              clear hK K
              simp only [Act.put, List.setIfInBounds_toArray, List.set_cons_zero, List.set_cons_succ]
              refine wpAnyL_take 5 31 (.tuple #[obV BA.key xm km lm, .int .i64 f]) [] rfl rfl (by kernel_rfl) (by kernel_rfl) (by kernel_rfl) (by kernel_rfl) (by kernel_rfl) (fun _ _ _ h => h) (by rfl) (fun _ _ => by go_simp) (unhide HSZ4) ?_
              simp only [Act.put, List.setIfInBounds_toArray, List.set_cons_zero, List.set_cons_succ]
              refine wpAnyL_take 6 37 (obV BA.key xm km lm) [] rfl rfl (by kernel_rfl) (by kernel_rfl) (by kernel_rfl) (by kernel_rfl) (by kernel_rfl) (fun _ _ _ h => h) (by rfl) (fun _ _ => by go_simp) (unhide HSZ4) ?_
              simp only [Act.put, List.setIfInBounds_toArray, List.set_cons_zero, List.set_cons_succ]
              refine wpAnyL_take 7 38 (.int .i64 f) [] rfl rfl (by kernel_rfl) (by kernel_rfl) (by kernel_rfl) (by kernel_rfl) (by kernel_rfl) (fun _ _ _ h => h) (by rfl) (fun _ _ => by go_simp) (unhide HSZ4) ?_
              simp only [Act.put, List.setIfInBounds_toArray, List.set_cons_zero, List.set_cons_succ]
              refine wpAnyL_one (i := 9) (by kernel_rfl) rfl (by rfl) fun K hK => ?_
              refine wp_store_ob (.tmp 9) (.tmp 37) (by rfl) (by rfl) KN BA.key xm km lm (by with_unfolding_all rfl) (by with_unfolding_all rfl) _ _ _ _ (unhide HY) ?_
              obtain ⟨Z5, hZ⟩ : ∃ Z, Z = Z4.setRow KN #[.string BA.key, .slice xm.sa km xm.sc, .slice xm.ba lm xm.bc] := ⟨_, rfl⟩
              have HYY : Hid (Z5.heap[KN]? = some (obRow BA.key xm km lm)) := by rw [hZ]; exact heapRow_same (unhide HY) _
              have HSE : Hid (Below X1.heap.size X1 Z5) := by rw [hZ]; exact belowRow (unhide HSZ4) (unhide HKG) _
              have HLN : Hid (Lo Z5 KN BA xm km lm) := ⟨⟨((unhide HMO).own.keep fun g hg => by rw [hZ]; exact heapRow_other _ _ _ _ (unhide HFAR g hg)).at (unhide HF2).2 (unhide HF2).1, (unhide HMO).ek, (unhide HMO).el⟩, unhide HYY⟩
              rw [← hZ]
              clear hZ
              refine hK _ _ (fun _ => unhide HSE) ?_
              clear hK K
              refine wpAnyL_one (i := 10) (by kernel_rfl) rfl (by rfl) fun K hK => ?_
              refine wp_val (.int .i64 f) (by go_simp) (some 10) (by rfl) ?_
              refine hK _ _ (fun _ => unhide HSE) ?_
              clear hK K
              simp only [Act.put, List.setIfInBounds_toArray, List.set_cons_zero, List.set_cons_succ]
              refine wpAnyL_done (by kernel_rfl) ?_ _
              go_wp2_with fail
              go_meet
              exact ⟨KN, xm, km, lm, rfl, rfl, ⟨unhide HLN, unhide HSE⟩⟩
          · refine wp_alloc_ob (by rfl) (some 9) (by rfl) ?_
            obtain ⟨Z2, hZ⟩ : ∃ Z, Z = Z1.alloc (.cells #[.string ⟨#[]⟩, .slice none 0 0, .slice none 0 0] 33) := ⟨_, rfl⟩
            obtain ⟨KN, hKN⟩ : ∃ K, K = Z1.heap.size := ⟨_, rfl⟩
            have HY : Hid (Z2.heap[KN]? = some (obRow ⟨#[]⟩ Sv.none 0 0)) := by rw [hZ, hKN]; exact heap_alloc_new _ _
            have hbx : Below Z1.heap.size Z1 Z2 := by rw [hZ]; exact (Below.refl _ _).alloc (Nat.le_refl _) _
            have HKG : Hid (X1.heap.size ≤ KN) := by rw [hKN]; exact (unhide HSZ1).size
            rw [← hZ, ← hKN]
            have HSZ2 : Hid (Below X1.heap.size X1 Z2) := (unhide HSZ1).trans (hbx.mono (unhide HSZ1).size)
            replace HT1 := hide ((unhide HT1).below hbx)
            clear hZ hKN hbx
            refine hK _ _ (fun _ => unhide HSZ2) ?_
            clear hK K
            simp only [Act.put, List.setIfInBounds_toArray, List.set_cons_zero, List.set_cons_succ]
            refine wpAnyL_one (i := 3) (by kernel_rfl) rfl (by rfl) fun K hK => ?_
            refine wp_call_fn 13 _ _ (by rfl) #[obV a.key va na ma] (by with_unfolding_all rfl) entLT (some 35) (by rfl) _ (asV2 (kTwin Z2 ((unhide HLA).toSx.below (unhide HSZ2)))) ?_
            rintro _ Z3 ⟨xt2, rfl, hsx, hbx⟩
            have HT2 := hide hsx
            have HSZ3 : Hid (Below X1.heap.size X1 Z3) := (unhide HSZ2).trans (hbx.mono (unhide HSZ2).size)
            replace HT1 := hide ((unhide HT1).below hbx)
            replace HY := hide (box_below (unhide HY) hbx)
            clear hsx hbx
            refine hK _ _ (fun _ => unhide HSZ3) ?_
            clear hK K
            simp only [Act.put, List.setIfInBounds_toArray, List.set_cons_zero, List.set_cons_succ]
            refine wpAnyL_one (i := 4) (by kernel_rfl) rfl (by rfl) fun K hK => ?_
            have HKB : Hid (KN < Z3.heap.size) := heap_lt (unhide HY)
            refine wp_call_fn 22 _ _ (by rfl) #[obV b.key xt1 nb mb, obV a.key xt2 na ma] (by with_unfolding_all rfl) entMg (some 36) (by rfl) _ (kMerge (unhide HT1) (unhide HT2) (unhide HM2)) ?_
            rintro _ Z4 ⟨xm, km, lm, rfl, hsx, hbx⟩
            have HMO := hide hsx
            have HSZ4 : Hid (Below X1.heap.size X1 Z4) := (unhide HSZ3).trans (hbx.mono (unhide HSZ3).size)
            replace HT1 := hide ((unhide HT1).below hbx)
            replace HT2 := hide ((unhide HT2).below hbx)
            replace HY := hide (box_below (unhide HY) hbx)
            have HFAR : Hid (∀ g, xm.has BA.st.seen.length BA.st.sibs.length g → g ≠ KN) := fun g hg => by
              have h1 := ((unhide HMO).own.lt hg).1
              have h2 := unhide HKB
              omega
            clear hsx hbx
            refine hK _ _ (fun _ => unhide HSZ4) ?_
            clear hK K
            simp only [Act.put, List.setIfInBounds_toArray, List.set_cons_zero, List.set_cons_succ]
            refine wpAnyL_take 5 31 (.tuple #[obV BA.key xm km lm, .int .i64 f]) [] rfl rfl (by kernel_rfl) (by kernel_rfl) (by kernel_rfl) (by kernel_rfl) (by kernel_rfl) (fun _ _ _ h => h) (by rfl) (fun _ _ => by go_simp) (unhide HSZ4) ?_
            simp only [Act.put, List.setIfInBounds_toArray, List.set_cons_zero, List.set_cons_succ]
            refine wpAnyL_take 6 37 (obV BA.key xm km lm) [] rfl rfl (by kernel_rfl) (by kernel_rfl) (by kernel_rfl) (by kernel_rfl) (by kernel_rfl) (fun _ _ _ h => h) (by rfl) (fun _ _ => by go_simp) (unhide HSZ4) ?_
            simp only [Act.put, List.setIfInBounds_toArray, List.set_cons_zero, List.set_cons_succ]
            refine wpAnyL_take 7 38 (.int .i64 f) [] rfl rfl (by kernel_rfl) (by kernel_rfl) (by kernel_rfl) (by kernel_rfl) (by kernel_rfl) (fun _ _ _ h => h) (by rfl) (fun _ _ => by go_simp) (unhide HSZ4) ?_
            simp only [Act.put, List.setIfInBounds_toArray, List.set_cons_zero, List.set_cons_succ]
            refine wpAnyL_one (i := 9) (by kernel_rfl) rfl (by rfl) fun K hK => ?_
            refine wp_store_ob (.tmp 9) (.tmp 37) (by rfl) (by rfl) KN BA.key xm km lm (by with_unfolding_all rfl) (by with_unfolding_all rfl) _ _ _ _ (unhide HY) ?_
            obtain ⟨Z5, hZ⟩ : ∃ Z, Z = Z4.setRow KN #[.string BA.key, .slice xm.sa km xm.sc, .slice xm.ba lm xm.bc] := ⟨_, rfl⟩
            have HYY : Hid (Z5.heap[KN]? = some (obRow BA.key xm km lm)) := by rw [hZ]; exact heapRow_same (unhide HY) _
            have HSE : Hid (Below X1.heap.size X1 Z5) := by rw [hZ]; exact belowRow (unhide HSZ4) (unhide HKG) _
            have HLN : Hid (Lo Z5 KN BA xm km lm) := ⟨⟨((unhide HMO).own.keep fun g hg => by rw [hZ]; exact heapRow_other _ _ _ _ (unhide HFAR g hg)).at (unhide HF2).2 (unhide HF2).1, (unhide HMO).ek, (unhide HMO).el⟩, unhide HYY⟩
            rw [← hZ]
            clear hZ
            refine hK _ _ (fun _ => unhide HSE) ?_
            clear hK K
            refine wpAnyL_one (i := 10) (by kernel_rfl) rfl (by rfl) fun K hK => ?_
            refine wp_val (.int .i64 f) (by go_simp) (some 10) (by rfl) ?_
            refine hK _ _ (fun _ => unhide HSE) ?_
            clear hK K
            simp only [Act.put, List.setIfInBounds_toArray, List.set_cons_zero, List.set_cons_succ]
            refine wpAnyL_done (by kernel_rfl) ?_ _
            go_wp2_with fail
            go_meet
            exact ⟨KN, xm, km, lm, rfl, rfl, ⟨unhide HLN, unhide HSE⟩⟩
        · refine wp_alloc_ob (by rfl) (some 9) (by rfl) ?_
          obtain ⟨Z1, hZ⟩ : ∃ Z, Z = Z0.alloc (.cells #[.string ⟨#[]⟩, .slice none 0 0, .slice none 0 0] 33) := ⟨_, rfl⟩
          obtain ⟨KN, hKN⟩ : ∃ K, K = Z0.heap.size := ⟨_, rfl⟩
          have HY : Hid (Z1.heap[KN]? = some (obRow ⟨#[]⟩ Sv.none 0 0)) := by rw [hZ, hKN]; exact heap_alloc_new _ _
          have hbx : Below Z0.heap.size Z0 Z1 := by rw [hZ]; exact (Below.refl _ _).alloc (Nat.le_refl _) _
          have HKG : Hid (X1.heap.size ≤ KN) := by rw [hKN]; exact (unhide HSZ0).size
          rw [← hZ, ← hKN]
          have HSZ1 : Hid (Below X1.heap.size X1 Z1) := (unhide HSZ0).trans (hbx.mono (unhide HSZ0).size)
          clear hZ hKN hbx
          refine hK _ _ (fun _ => unhide HSZ1) ?_
          clear hK K
          simp only [Act.put, List.setIfInBounds_toArray, List.set_cons_zero, List.set_cons_succ]
          refine wpAnyL_one (i := 1) (by kernel_rfl) rfl (by rfl) fun K hK => ?_
          refine wp_call_fn 13 _ _ (by rfl) #[obV b.key vb nb mb] (by with_unfolding_all rfl) entLT (some 33) (by rfl) _ (asV2 (kTwin Z1 ((unhide HLB).toSx.below (unhide HSZ1)))) ?_
          rintro _ Z2 ⟨xt1, rfl, hsx, hbx⟩
          have HT1 := hide hsx
          have HSZ2 : Hid (Below X1.heap.size X1 Z2) := (unhide HSZ1).trans (hbx.mono (unhide HSZ1).size)
          replace HY := hide (box_below (unhide HY) hbx)
          clear hsx hbx
          refine hK _ _ (fun _ => unhide HSZ2) ?_
          clear hK K
          simp only [Act.put, List.setIfInBounds_toArray, List.set_cons_zero, List.set_cons_succ]
          refine wpAnyL_one (i := 3) (by kernel_rfl) rfl (by rfl) fun K hK => ?_
          refine wp_call_fn 13 _ _ (by rfl) #[obV a.key va na ma] (by with_unfolding_all rfl) entLT (some 35) (by rfl) _ (asV2 (kTwin Z2 ((unhide HLA).toSx.below (unhide HSZ2)))) ?_
          rintro _ Z3 ⟨xt2, rfl, hsx, hbx⟩
          have HT2 := hide hsx
          have HSZ3 : Hid (Below X1.heap.size X1 Z3) := (unhide HSZ2).trans (hbx.mono (unhide HSZ2).size)
          replace HT1 := hide ((unhide HT1).below hbx)
          replace HY := hide (box_below (unhide HY) hbx)
          clear hsx hbx
          refine hK _ _ (fun _ => unhide HSZ3) ?_
          clear hK K
          simp only [Act.put, List.setIfInBounds_toArray, List.set_cons_zero, List.set_cons_succ]
          refine wpAnyL_one (i := 4) (by kernel_rfl) rfl (by rfl) fun K hK => ?_
          have HKB : Hid (KN < Z3.heap.size) := heap_lt (unhide HY)
          refine wp_call_fn 22 _ _ (by rfl) #[obV b.key xt1 nb mb, obV a.key xt2 na ma] (by with_unfolding_all rfl) entMg (some 36) (by rfl) _ (kMerge (unhide HT1) (unhide HT2) (unhide HM2)) ?_
          rintro _ Z4 ⟨xm, km, lm, rfl, hsx, hbx⟩
          have HMO := hide hsx
          have HSZ4 : Hid (Below X1.heap.size X1 Z4) := (unhide HSZ3).trans (hbx.mono (unhide HSZ3).size)
          replace HT1 := hide ((unhide HT1).below hbx)
          replace HT2 := hide ((unhide HT2).below hbx)
          replace HY := hide (box_below (unhide HY) hbx)
          have HFAR : Hid (∀ g, xm.has BA.st.seen.length BA.st.sibs.length g → g ≠ KN) := fun g hg => by
            have h1 := ((unhide HMO).own.lt hg).1
            have h2 := unhide HKB
            omega
          clear hsx hbx
          refine hK _ _ (fun _ => unhide HSZ4) ?_
          clear hK K
          simp only [Act.put, List.setIfInBounds_toArray, List.set_cons_zero, List.set_cons_succ]
          refine wpAnyL_take 5 31 (.tuple #[obV BA.key xm km lm, .int .i64 f]) [] rfl rfl (by kernel_rfl) (by kernel_rfl) (by kernel_rfl) (by kernel_rfl) (by kernel_rfl) (fun _ _ _ h => h) (by rfl) (fun _ _ => by go_simp) (unhide HSZ4) ?_
          simp only [Act.put, List.setIfInBounds_toArray, List.set_cons_zero, List.set_cons_succ]
          refine wpAnyL_take 6 37 (obV BA.key xm km lm) [] rfl rfl (by kernel_rfl) (by kernel_rfl) (by kernel_rfl) (by kernel_rfl) (by kernel_rfl) (fun _ _ _ h => h) (by rfl) (fun _ _ => by go_simp) (unhide HSZ4) ?_
          simp only [Act.put, List.setIfInBounds_toArray, List.set_cons_zero, List.set_cons_succ]
          refine wpAnyL_take 7 38 (.int .i64 f) [] rfl rfl (by kernel_rfl) (by kernel_rfl) (by kernel_rfl) (by kernel_rfl) (by kernel_rfl) (fun _ _ _ h => h) (by rfl) (fun _ _ => by go_simp) (unhide HSZ4) ?_
          simp only [Act.put, List.setIfInBounds_toArray, List.set_cons_zero, List.set_cons_succ]
          refine wpAnyL_one (i := 9) (by kernel_rfl) rfl (by rfl) fun K hK => ?_
          refine wp_store_ob (.tmp 9) (.tmp 37) (by rfl) (by rfl) KN BA.key xm km lm (by with_unfolding_all rfl) (by with_unfolding_all rfl) _ _ _ _ (unhide HY) ?_
          obtain ⟨Z5, hZ⟩ : ∃ Z, Z = Z4.setRow KN #[.string BA.key, .slice xm.sa km xm.sc, .slice xm.ba lm xm.bc] := ⟨_, rfl⟩
          have HYY : Hid (Z5.heap[KN]? = some (obRow BA.key xm km lm)) := by rw [hZ]; exact heapRow_same (unhide HY) _
          have HSE : Hid (Below X1.heap.size X1 Z5) := by rw [hZ]; exact belowRow (unhide HSZ4) (unhide HKG) _
          have HLN : Hid (Lo Z5 KN BA xm km lm) := ⟨⟨((unhide HMO).own.keep fun g hg => by rw [hZ]; exact heapRow_other _ _ _ _ (unhide HFAR g hg)).at (unhide HF2).2 (unhide HF2).1, (unhide HMO).ek, (unhide HMO).el⟩, unhide HYY⟩
          rw [← hZ]
          clear hZ
          refine hK _ _ (fun _ => unhide HSE) ?_
          clear hK K
          refine wpAnyL_one (i := 10) (by kernel_rfl) rfl (by rfl) fun K hK => ?_
          refine wp_val (.int .i64 f) (by go_simp) (some 10) (by rfl) ?_
          refine hK _ _ (fun _ => unhide HSE) ?_
          clear hK K
          simp only [Act.put, List.setIfInBounds_toArray, List.set_cons_zero, List.set_cons_succ]
          refine wpAnyL_done (by kernel_rfl) ?_ _
          go_wp2_with fail
          go_meet
          exact ⟨KN, xm, km, lm, rfl, rfl, ⟨unhide HLN, unhide HSE⟩⟩
    case rest =>
      obtain ⟨KE, xE, kE, lE, rfl, rfl, HC⟩ := hcut
      obtain ⟨X2, hW⟩ : ∃ W, W = wc := ⟨_, rfl⟩
      subst hW
      have hb := (unhide HC).2
      clear c0A c1A c2A c0B c1B c2B c0C c1C c2C c0D c1D c2D
      replace HLA := hide ((unhide HLA).below hb)
      replace HLB := hide ((unhide HLB).below hb)
      replace HLC := hide ((unhide HLC).below hb)
      replace HLD := hide ((unhide HLD).below hb)
      have HLE := hide (unhide HC).1
      replace HBU : Hid (Below N u X2) := (unhide HBU).trans (hb.mono (unhide HNW))
      replace HNW : Hid (N ≤ X2.heap.size) := Nat.le_trans (unhide HNW) hb.size
      clear hb HC
      obtain ⟨c0A, c1A, c2A⟩ := (unhide HLA).cells
      obtain ⟨c0B, c1B, c2B⟩ := (unhide HLB).cells
      obtain ⟨c0C, c1C, c2C⟩ := (unhide HLC).cells
      obtain ⟨c0D, c1D, c2D⟩ := (unhide HLD).cells
      obtain ⟨c0E, c1E, c2E⟩ := (unhide HLE).cells
      go_upto_region 5 with fail
      go_cut [81] (fun sC wx => sC = .bool false ∧ Hid (Below X2.heap.size X2 wx))
      case first =>
        as_aux_lemma =>
          rcases unhide HE with ⟨he, hf, h1, h2, h3, h4, h5⟩ | ⟨he, hf⟩
          · have HQ1 := hide h1
            have HQ2 := hide h2
            have hkk : (AB.key.toList == a.key.toList) = true := by rw [h3]; simp
            have hk3 := (unhide HLD).toSx.en
            obtain ⟨mx, hmx⟩ : ∃ n : Nat, n = max na nb := ⟨_, rfl⟩
            have hlt : ¬ (kD : Int) < (mx : Int) := by rw [hk3, hmx]; omega
            have hlt2 : ¬ kD < mx := by rw [hk3, hmx]; omega
            have hmxr : ∀ (ts : Array TypeId) (t : TypeId) (W : World), (Builtin.max_ ts t #[.int .i64 (na : Int), .int .i64 (nb : Int)]).run Try.prog W = .ok (.int .i64 (mx : Int)) W := fun ts t W => by
              rw [run_max_int2, hmx]
              congr 2
              split <;> omega
            subst he hf
            clear h1 h2 h3 h4 h5 hmx hk3
            go_wp2_with (first
              | (go_at_call 17; refine (klSame (a := AB) (b := BA) (unhide HLD).toSx (unhide HLE).toSx true (sameO_iff.2 (unhide HQ1))).mono ?_; rintro q V1 ⟨rfl, hb⟩; clear c0A c1A c2A c0B c1B c2B c0C c1C c2C c0D c1D c2D c0E c1E c2E; have HV1 : Hid (Below X2.heap.size X2 V1) := hb; clear hb; obtain ⟨c0A, c1A, c2A⟩ := ((unhide HLA).below (unhide HV1)).cells; obtain ⟨c0B, c1B, c2B⟩ := ((unhide HLB).below (unhide HV1)).cells; obtain ⟨c0C, c1C, c2C⟩ := ((unhide HLC).below (unhide HV1)).cells; obtain ⟨c0D, c1D, c2D⟩ := ((unhide HLD).below (unhide HV1)).cells; obtain ⟨c0E, c1E, c2E⟩ := ((unhide HLE).below (unhide HV1)).cells)
              | (go_at_call 30; refine (oCheck (o := AB) ((unhide HLD).toSx.below (unhide HV1)) 0 (unhide HQ2)).mono ?_; rintro q V2 ⟨rfl, hb⟩; clear c0A c1A c2A c0B c1B c2B c0C c1C c2C c0D c1D c2D c0E c1E c2E; have HV2 : Hid (Below X2.heap.size X2 V2) := (unhide HV1).trans (hb.mono (unhide HV1).size); clear hb; obtain ⟨c0A, c1A, c2A⟩ := ((unhide HLA).below (unhide HV2)).cells; obtain ⟨c0B, c1B, c2B⟩ := ((unhide HLB).below (unhide HV2)).cells; obtain ⟨c0C, c1C, c2C⟩ := ((unhide HLC).below (unhide HV2)).cells; obtain ⟨c0D, c1D, c2D⟩ := ((unhide HLD).below (unhide HV2)).cells; obtain ⟨c0E, c1E, c2E⟩ := ((unhide HLE).below (unhide HV2)).cells)
              | fail)
            go_meet
            exact ⟨rfl, unhide HV2⟩
          · have he' : (e == 0) = false := beq_eq_false_iff_ne.2 he
            have hf' : (f == 0) = false := beq_eq_false_iff_ne.2 hf
            clear he hf
            go_wp2
            go_meet
            exact ⟨rfl, Below.refl _ _⟩
      case rest =>
        obtain ⟨rfl, HC⟩ := hcut
        obtain ⟨X3, hW⟩ : ∃ W, W = wc := ⟨_, rfl⟩
        subst hW
        have hb := unhide HC
        clear c0A c1A c2A c0B c1B c2B c0C c1C c2C c0D c1D c2D c0E c1E c2E
        replace HLA := hide ((unhide HLA).below hb)
        replace HLB := hide ((unhide HLB).below hb)
        replace HLC := hide ((unhide HLC).below hb)
        replace HLD := hide ((unhide HLD).below hb)
        replace HLE := hide ((unhide HLE).below hb)
        replace HBU : Hid (Below N u X3) := (unhide HBU).trans (hb.mono (unhide HNW))
        replace HNW : Hid (N ≤ X3.heap.size) := Nat.le_trans (unhide HNW) hb.size
        clear hb HC
        obtain ⟨c0A, c1A, c2A⟩ := (unhide HLA).cells
        obtain ⟨c0B, c1B, c2B⟩ := (unhide HLB).cells
        obtain ⟨c0C, c1C, c2C⟩ := (unhide HLC).cells
        obtain ⟨c0D, c1D, c2D⟩ := (unhide HLD).cells
        obtain ⟨c0E, c1E, c2E⟩ := (unhide HLE).cells
        go_upto_region 7 with fail
        go_cut [11, 12] (fun sA sB wx => ∃ K x k l, sA = .pointer (some ⟨K, 0, none⟩) ∧ sB = .int .i64 g ∧ Hid (Lo wx K AA x k l ∧ Below X3.heap.size X3 wx))
        case first =>
          as_aux_lemma =>
            clear c0A c1A c2A c0B c1B c2B c0C c1C c2C c0D c1D c2D c0E c1E c2E
            refine wp_region_last (fun V => Below X3.heap.size X3 V) 10 hmix (belowDrew (Below.refl _ _)) fun hS => ?_
            have HSZ0 : Hid (Below X3.heap.size X3 X3.drew) := hS
            generalize X3.drew = Z0 at hS HSZ0 ⊢
            refine wpAnyL_take 0 83 (obV a.key va na ma) [] rfl rfl (by kernel_rfl) (by kernel_rfl) (by kernel_rfl) (by kernel_rfl) (by kernel_rfl) (fun _ _ _ h => h) (by rfl) (fun V hV => by obtain ⟨c0, c1, c2⟩ := ((unhide HLA).below hV).cells; simp only [obV]; go_simp) hS ?_
            simp only [Act.put, List.setIfInBounds_toArray, List.set_cons_zero, List.set_cons_succ]
            refine wpAnyL_take 2 85 (obV a.key va na ma) [] rfl rfl (by kernel_rfl) (by kernel_rfl) (by kernel_rfl) (by kernel_rfl) (by kernel_rfl) (fun _ _ _ h => h) (by rfl) (fun V hV => by obtain ⟨c0, c1, c2⟩ := ((unhide HLA).below hV).cells; simp only [obV]; go_simp) hS ?_
            simp only [Act.put, List.setIfInBounds_toArray, List.set_cons_zero, List.set_cons_succ]
            refine wpAnyL_two (i := 1) (j := 8) (by kernel_rfl) rfl rfl (by rfl) (by rfl) (fun K hK => ?_) (fun K hK => ?_)
            · refine wp_call_fn 13 _ _ (by rfl) #[obV a.key va na ma] (by with_unfolding_all rfl) entLT (some 84) (by rfl) _ (asV2 (kTwin Z0 ((unhide HLA).toSx.below (unhide HSZ0)))) ?_
              rintro _ Z1 ⟨xt1, rfl, hsx, hbx⟩
              have HT1 := hide hsx
              have HSZ1 : Hid (Below X3.heap.size X3 Z1) := (unhide HSZ0).trans (hbx.mono (unhide HSZ0).size)
              clear hsx hbx
              refine hK _ _ (fun _ => unhide HSZ1) ?_
              clear hK K
              simp only [Act.put, List.setIfInBounds_toArray, List.set_cons_zero, List.set_cons_succ]
              refine wpAnyL_two (i := 3) (j := 8) (by kernel_rfl) rfl rfl (by rfl) (by rfl) (fun K hK => ?_) (fun K hK => ?_)
              · refine wp_call_fn 13 _ _ (by rfl) #[obV a.key va na ma] (by with_unfolding_all rfl) entLT (some 86) (by rfl) _ (asV2 (kTwin Z1 ((unhide HLA).toSx.below (unhide HSZ1)))) ?_
                rintro _ Z2 ⟨xt2, rfl, hsx, hbx⟩
                have HT2 := hide hsx
                have HSZ2 : Hid (Below X3.heap.size X3 Z2) := (unhide HSZ1).trans (hbx.mono (unhide HSZ1).size)
                replace HT1 := hide ((unhide HT1).below hbx)
                clear hsx hbx
                refine hK _ _ (fun _ => unhide HSZ2) ?_
                clear hK K
                simp only [Act.put, List.setIfInBounds_toArray, List.set_cons_zero, List.set_cons_succ]
                refine wpAnyL_two (i := 4) (j := 8) (by kernel_rfl) rfl rfl (by rfl) (by rfl) (fun K hK => ?_) (fun K hK => ?_)
                · refine wp_call_fn 22 _ _ (by rfl) #[obV a.key xt1 na ma, obV a.key xt2 na ma] (by with_unfolding_all rfl) entMg (some 87) (by rfl) _ (kMerge (unhide HT1) (unhide HT2) (unhide HM3)) ?_
                  rintro _ Z3 ⟨xm, km, lm, rfl, hsx, hbx⟩
                  have HMO := hide hsx
                  have HSZ3 : Hid (Below X3.heap.size X3 Z3) := (unhide HSZ2).trans (hbx.mono (unhide HSZ2).size)
                  replace HT1 := hide ((unhide HT1).below hbx)
                  replace HT2 := hide ((unhide HT2).below hbx)
                  clear hsx hbx
                  refine hK _ _ (fun _ => unhide HSZ3) ?_
                  clear hK K
                  simp only [Act.put, List.setIfInBounds_toArray, List.set_cons_zero, List.set_cons_succ]
                  refine wpAnyL_take 5 82 (.tuple #[obV AA.key xm km lm, .int .i64 g]) [] rfl rfl (by kernel_rfl) (by kernel_rfl) (by kernel_rfl) (by kernel_rfl) (by kernel_rfl) (fun _ _ _ h => h) (by rfl) (fun _ _ => by go_simp) (unhide HSZ3) ?_
                  simp only [Act.put, List.setIfInBounds_toArray, List.set_cons_zero, List.set_cons_succ]
                  refine wpAnyL_take 6 88 (obV AA.key xm km lm) [] rfl rfl (by kernel_rfl) (by kernel_rfl) (by kernel_rfl) (by kernel_rfl) (by kernel_rfl) (fun _ _ _ h => h) (by rfl) (fun _ _ => by go_simp) (unhide HSZ3) ?_
                  simp only [Act.put, List.setIfInBounds_toArray, List.set_cons_zero, List.set_cons_succ]
                  refine wpAnyL_take 7 89 (.int .i64 g) [] rfl rfl (by kernel_rfl) (by kernel_rfl) (by kernel_rfl) (by kernel_rfl) (by kernel_rfl) (fun _ _ _ h => h) (by rfl) (fun _ _ => by go_simp) (unhide HSZ3) ?_
                  simp only [Act.put, List.setIfInBounds_toArray, List.set_cons_zero, List.set_cons_succ]
                  refine wpAnyL_one (i := 8) (by kernel_rfl) rfl (by rfl) fun K hK => ?_
                  refine wp_alloc_ob (by rfl) (some 11) (by rfl) ?_
                  obtain ⟨Z4, hZ⟩ : ∃ Z, Z = Z3.alloc (.cells #[.string ⟨#[]⟩, .slice none 0 0, .slice none 0 0] 33) := ⟨_, rfl⟩
                  obtain ⟨KN, hKN⟩ : ∃ K, K = Z3.heap.size := ⟨_, rfl⟩
                  have HY : Hid (Z4.heap[KN]? = some (obRow ⟨#[]⟩ Sv.none 0 0)) := by rw [hZ, hKN]; exact heap_alloc_new _ _
                  have hbx : Below Z3.heap.size Z3 Z4 := by rw [hZ]; exact (Below.refl _ _).alloc (Nat.le_refl _) _
                  have HKG : Hid (X3.heap.size ≤ KN) := by rw [hKN]; exact (unhide HSZ3).size
                  rw [← hZ, ← hKN]
                  have HSZ4 : Hid (Below X3.heap.size X3 Z4) := (unhide HSZ3).trans (hbx.mono (unhide HSZ3).size)
                  have HFAR : Hid (∀ g, xm.has AA.st.seen.length AA.st.sibs.length g → g ≠ KN) := fun g hg => by
                    have h1 := ((unhide HMO).own.lt hg).2
                    omega
                  replace HT1 := hide ((unhide HT1).below hbx)
                  replace HT2 := hide ((unhide HT2).below hbx)
                  replace HMO := hide ((unhide HMO).below hbx)
                  clear hZ hKN hbx
                  refine hK _ _ (fun _ => unhide HSZ4) ?_
                  clear hK K
                  simp only [Act.put, List.setIfInBounds_toArray, List.set_cons_zero, List.set_cons_succ]
                  refine wpAnyL_one (i := 9) (by kernel_rfl) rfl (by rfl) fun K hK => ?_
                  refine wp_store_ob (.tmp 11) (.tmp 88) (by rfl) (by rfl) KN AA.key xm km lm (by with_unfolding_all rfl) (by with_unfolding_all rfl) _ _ _ _ (unhide HY) ?_
                  obtain ⟨Z5, hZ⟩ : ∃ Z, Z = Z4.setRow KN #[.string AA.key, .slice xm.sa km xm.sc, .slice xm.ba lm xm.bc] := ⟨_, rfl⟩
                  have HYY : Hid (Z5.heap[KN]? = some (obRow AA.key xm km lm)) := by rw [hZ]; exact heapRow_same (unhide HY) _
                  have HSE : Hid (Below X3.heap.size X3 Z5) := by rw [hZ]; exact belowRow (unhide HSZ4) (unhide HKG) _
                  have HLN : Hid (Lo Z5 KN AA xm km lm) := ⟨⟨((unhide HMO).own.keep fun g hg => by rw [hZ]; exact heapRow_other _ _ _ _ (unhide HFAR g hg)).at (unhide HF3).2 (unhide HF3).1, (unhide HMO).ek, (unhide HMO).el⟩, unhide HYY⟩
                  rw [← hZ]
                  clear hZ
                  refine hK _ _ (fun _ => unhide HSE) ?_
                  clear hK K
                  refine wpAnyL_one (i := 10) (by kernel_rfl) rfl (by rfl) fun K hK => ?_
                  refine wp_val (.int .i64 g) (by go_simp) (some 12) (by rfl) ?_
                  refine hK _ _ (fun _ => unhide HSE) ?_
                  clear hK K
                  simp only [Act.put, List.setIfInBounds_toArray, List.set_cons_zero, List.set_cons_succ]
                  refine wpAnyL_done (by kernel_rfl) ?_ _
                  go_wp2_with fail
                  go_meet
                  exact ⟨KN, xm, km, lm, rfl, rfl, ⟨unhide HLN, unhide HSE⟩⟩
                · refine wp_alloc_ob (by rfl) (some 11) (by rfl) ?_
                  obtain ⟨Z3, hZ⟩ : ∃ Z, Z = Z2.alloc (.cells #[.string ⟨#[]⟩, .slice none 0 0, .slice none 0 0] 33) := ⟨_, rfl⟩
                  obtain ⟨KN, hKN⟩ : ∃ K, K = Z2.heap.size := ⟨_, rfl⟩
                  have HY : Hid (Z3.heap[KN]? = some (obRow ⟨#[]⟩ Sv.none 0 0)) := by rw [hZ, hKN]; exact heap_alloc_new _ _
                  have hbx : Below Z2.heap.size Z2 Z3 := by rw [hZ]; exact (Below.refl _ _).alloc (Nat.le_refl _) _
                  have HKG : Hid (X3.heap.size ≤ KN) := by rw [hKN]; exact (unhide HSZ2).size
                  rw [← hZ, ← hKN]
                  have HSZ3 : Hid (Below X3.heap.size X3 Z3) := (unhide HSZ2).trans (hbx.mono (unhide HSZ2).size)
                  replace HT1 := hide ((unhide HT1).below hbx)
                  replace HT2 := hide ((unhide HT2).below hbx)
                  clear hZ hKN hbx
                  refine hK _ _ (fun _ => unhide HSZ3) ?_
                  clear hK K
                  simp only [Act.put, List.setIfInBounds_toArray, List.set_cons_zero, List.set_cons_succ]
                  refine wpAnyL_one (i := 4) (by kernel_rfl) rfl (by rfl) fun K hK => ?_
                  have HKB : Hid (KN < Z3.heap.size) := heap_lt (unhide HY)
                  refine wp_call_fn 22 _ _ (by rfl) #[obV a.key xt1 na ma, obV a.key xt2 na ma] (by with_unfolding_all rfl) entMg (some 87) (by rfl) _ (kMerge (unhide HT1) (unhide HT2) (unhide HM3)) ?_
                  rintro _ Z4 ⟨xm, km, lm, rfl, hsx, hbx⟩
                  have HMO := hide hsx
                  have HSZ4 : Hid (Below X3.heap.size X3 Z4) := (unhide HSZ3).trans (hbx.mono (unhide HSZ3).size)
                  replace HT1 := hide ((unhide HT1).below hbx)
                  replace HT2 := hide ((unhide HT2).below hbx)
                  replace HY := hide (box_below (unhide HY) hbx)
                  have HFAR : Hid (∀ g, xm.has AA.st.seen.length AA.st.sibs.length g → g ≠ KN) := fun g hg => by
                    have h1 := ((unhide HMO).own.lt hg).1
                    have h2 := unhide HKB
                    omega
                  clear hsx hbx
                  refine hK _ _ (fun _ => unhide HSZ4) ?_
                  clear hK K
                  simp only [Act.put, List.setIfInBounds_toArray, List.set_cons_zero, List.set_cons_succ]
                  refine wpAnyL_take 5 82 (.tuple #[obV AA.key xm km lm, .int .i64 g]) [] rfl rfl (by kernel_rfl) (by kernel_rfl) (by kernel_rfl) (by kernel_rfl) (by kernel_rfl) (fun _ _ _ h => h) (by rfl) (fun _ _ => by go_simp) (unhide HSZ4) ?_
                  simp only [Act.put, List.setIfInBounds_toArray, List.set_cons_zero, List.set_cons_succ]
                  refine wpAnyL_take 6 88 (obV AA.key xm km lm) [] rfl rfl (by kernel_rfl) (by kernel_rfl) (by kernel_rfl) (by kernel_rfl) (by kernel_rfl) (fun _ _ _ h => h) (by rfl) (fun _ _ => by go_simp) (unhide HSZ4) ?_
                  simp only [Act.put, List.setIfInBounds_toArray, List.set_cons_zero, List.set_cons_succ]
                  refine wpAnyL_take 7 89 (.int .i64 g) [] rfl rfl (by kernel_rfl) (by kernel_rfl) (by kernel_rfl) (by kernel_rfl) (by kernel_rfl) (fun _ _ _ h => h) (by rfl) (fun _ _ => by go_simp) (unhide HSZ4) ?_
                  simp only [Act.put, List.setIfInBounds_toArray, List.set_cons_zero, List.set_cons_succ]
                  refine wpAnyL_one (i := 9) (by kernel_rfl) rfl (by rfl) fun K hK => ?_
                  refine wp_store_ob (.tmp 11) (.tmp 88) (by rfl) (by rfl) KN AA.key xm km lm (by with_unfolding_all rfl) (by with_unfolding_all rfl) _ _ _ _ (unhide HY) ?_
                  obtain ⟨Z5, hZ⟩ : ∃ Z, Z = Z4.setRow KN #[.string AA.key, .slice xm.sa km xm.sc, .slice xm.ba lm xm.bc] := ⟨_, rfl⟩
                  have HYY : Hid (Z5.heap[KN]? = some (obRow AA.key xm km lm)) := by rw [hZ]; exact heapRow_same (unhide HY) _
                  have HSE : Hid (Below X3.heap.size X3 Z5) := by rw [hZ]; exact belowRow (unhide HSZ4) (unhide HKG) _
                  have HLN : Hid (Lo Z5 KN AA xm km lm) := ⟨⟨((unhide HMO).own.keep fun g hg => by rw [hZ]; exact heapRow_other _ _ _ _ (unhide HFAR g hg)).at (unhide HF3).2 (unhide HF3).1, (unhide HMO).ek, (unhide HMO).el⟩, unhide HYY⟩
                  rw [← hZ]
                  clear hZ
                  refine hK _ _ (fun _ => unhide HSE) ?_
                  clear hK K
                  refine wpAnyL_one (i := 10) (by kernel_rfl) rfl (by rfl) fun K hK => ?_
                  refine wp_val (.int .i64 g) (by go_simp) (some 12) (by rfl) ?_
                  refine hK _ _ (fun _ => unhide HSE) ?_
                  clear hK K
                  simp only [Act.put, List.setIfInBounds_toArray, List.set_cons_zero, List.set_cons_succ]
                  refine wpAnyL_done (by kernel_rfl) ?_ _
                  go_wp2_with fail
                  go_meet
                  exact ⟨KN, xm, km, lm, rfl, rfl, ⟨unhide HLN, unhide HSE⟩⟩
              · refine wp_alloc_ob (by rfl) (some 11) (by rfl) ?_
                obtain ⟨Z2, hZ⟩ : ∃ Z, Z = Z1.alloc (.cells #[.string ⟨#[]⟩, .slice none 0 0, .slice none 0 0] 33) := ⟨_, rfl⟩
                obtain ⟨KN, hKN⟩ : ∃ K, K = Z1.heap.size := ⟨_, rfl⟩
                have HY : Hid (Z2.heap[KN]? = some (obRow ⟨#[]⟩ Sv.none 0 0)) := by rw [hZ, hKN]; exact heap_alloc_new _ _
                have hbx : Below Z1.heap.size Z1 Z2 := by rw [hZ]; exact (Below.refl _ _).alloc (Nat.le_refl _) _
                have HKG : Hid (X3.heap.size ≤ KN) := by rw [hKN]; exact (unhide HSZ1).size
                rw [← hZ, ← hKN]
                have HSZ2 : Hid (Below X3.heap.size X3 Z2) := (unhide HSZ1).trans (hbx.mono (unhide HSZ1).size)
                replace HT1 := hide ((unhide HT1).below hbx)
                clear hZ hKN hbx
                refine hK _ _ (fun _ => unhide HSZ2) ?_
                clear hK K
                simp only [Act.put, List.setIfInBounds_toArray, List.set_cons_zero, List.set_cons_succ]
                refine wpAnyL_one (i := 3) (by kernel_rfl) rfl (by rfl) fun K hK => ?_
                refine wp_call_fn 13 _ _ (by rfl) #[obV a.key va na ma] (by with_unfolding_all rfl) entLT (some 86) (by rfl) _ (asV2 (kTwin Z2 ((unhide HLA).toSx.below (unhide HSZ2)))) ?_
                rintro _ Z3 ⟨xt2, rfl, hsx, hbx⟩
                have HT2 := hide hsx
                have HSZ3 : Hid (Below X3.heap.size X3 Z3) := (unhide HSZ2).trans (hbx.mono (unhide HSZ2).size)
                replace HT1 := hide ((unhide HT1).below hbx)
                replace HY := hide (box_below (unhide HY) hbx)
                clear hsx hbx
                refine hK _ _ (fun _ => unhide HSZ3) ?_
                clear hK K
                simp only [Act.put, List.setIfInBounds_toArray, List.set_cons_zero, List.set_cons_succ]
                refine wpAnyL_one (i := 4) (by kernel_rfl) rfl (by rfl) fun K hK => ?_
                have HKB : Hid (KN < Z3.heap.size) := heap_lt (unhide HY)
                refine wp_call_fn 22 _ _ (by rfl) #[obV a.key xt1 na ma, obV a.key xt2 na ma] (by with_unfolding_all rfl) entMg (some 87) (by rfl) _ (kMerge (unhide HT1) (unhide HT2) (unhide HM3)) ?_
                rintro _ Z4 ⟨xm, km, lm, rfl, hsx, hbx⟩
                have HMO := hide hsx
                have HSZ4 : Hid (Below X3.heap.size X3 Z4) := (unhide HSZ3).trans (hbx.mono (unhide HSZ3).size)
                replace HT1 := hide ((unhide HT1).below hbx)
                replace HT2 := hide ((unhide HT2).below hbx)
                replace HY := hide (box_below (unhide HY) hbx)
                have HFAR : Hid (∀ g, xm.has AA.st.seen.length AA.st.sibs.length g → g ≠ KN) := fun g hg => by
                  have h1 := ((unhide HMO).own.lt hg).1
                  have h2 := unhide HKB
                  omega
                clear hsx hbx
                refine hK _ _ (fun _ => unhide HSZ4) ?_
                clear hK K
                simp only [Act.put, List.setIfInBounds_toArray, List.set_cons_zero, List.set_cons_succ]
                refine wpAnyL_take 5 82 (.tuple #[obV AA.key xm km lm, .int .i64 g]) [] rfl rfl (by kernel_rfl) (by kernel_rfl) (by kernel_rfl) (by kernel_rfl) (by kernel_rfl) (fun _ _ _ h => h) (by rfl) (fun _ _ => by go_simp) (unhide HSZ4) ?_
                simp only [Act.put, List.setIfInBounds_toArray, List.set_cons_zero, List.set_cons_succ]
                refine wpAnyL_take 6 88 (obV AA.key xm km lm) [] rfl rfl (by kernel_rfl) (by kernel_rfl) (by kernel_rfl) (by kernel_rfl) (by kernel_rfl) (fun _ _ _ h => h) (by rfl) (fun _ _ => by go_simp) (unhide HSZ4) ?_
                simp only [Act.put, List.setIfInBounds_toArray, List.set_cons_zero, List.set_cons_succ]
                refine wpAnyL_take 7 89 (.int .i64 g) [] rfl rfl (by kernel_rfl) (by kernel_rfl) (by kernel_rfl) (by kernel_rfl) (by kernel_rfl) (fun _ _ _ h => h) (by rfl) (fun _ _ => by go_simp) (unhide HSZ4) ?_
                simp only [Act.put, List.setIfInBounds_toArray, List.set_cons_zero, List.set_cons_succ]
                refine wpAnyL_one (i := 9) (by kernel_rfl) rfl (by rfl) fun K hK => ?_
                refine wp_store_ob (.tmp 11) (.tmp 88) (by rfl) (by rfl) KN AA.key xm km lm (by with_unfolding_all rfl) (by with_unfolding_all rfl) _ _ _ _ (unhide HY) ?_
                obtain ⟨Z5, hZ⟩ : ∃ Z, Z = Z4.setRow KN #[.string AA.key, .slice xm.sa km xm.sc, .slice xm.ba lm xm.bc] := ⟨_, rfl⟩
                have HYY : Hid (Z5.heap[KN]? = some (obRow AA.key xm km lm)) := by rw [hZ]; exact heapRow_same (unhide HY) _
                have HSE : Hid (Below X3.heap.size X3 Z5) := by rw [hZ]; exact belowRow (unhide HSZ4) (unhide HKG) _
                have HLN : Hid (Lo Z5 KN AA xm km lm) := ⟨⟨((unhide HMO).own.keep fun g hg => by rw [hZ]; exact heapRow_other _ _ _ _ (unhide HFAR g hg)).at (unhide HF3).2 (unhide HF3).1, (unhide HMO).ek, (unhide HMO).el⟩, unhide HYY⟩
                rw [← hZ]
                clear hZ
                refine hK _ _ (fun _ => unhide HSE) ?_
                clear hK K
                refine wpAnyL_one (i := 10) (by kernel_rfl) rfl (by rfl) fun K hK => ?_
                refine wp_val (.int .i64 g) (by go_simp) (some 12) (by rfl) ?_
                refine hK _ _ (fun _ => unhide HSE) ?_
                clear hK K
                simp only [Act.put, List.setIfInBounds_toArray, List.set_cons_zero, List.set_cons_succ]
                refine wpAnyL_done (by kernel_rfl) ?_ _
                go_wp2_with fail
                go_meet
                exact ⟨KN, xm, km, lm, rfl, rfl, ⟨unhide HLN, unhide HSE⟩⟩
            · refine wp_alloc_ob (by rfl) (some 11) (by rfl) ?_
              obtain ⟨Z1, hZ⟩ : ∃ Z, Z = Z0.alloc (.cells #[.string ⟨#[]⟩, .slice none 0 0, .slice none 0 0] 33) := ⟨_, rfl⟩
              obtain ⟨KN, hKN⟩ : ∃ K, K = Z0.heap.size := ⟨_, rfl⟩
              have HY : Hid (Z1.heap[KN]? = some (obRow ⟨#[]⟩ Sv.none 0 0)) := by rw [hZ, hKN]; exact heap_alloc_new _ _
              have hbx : Below Z0.heap.size Z0 Z1 := by rw [hZ]; exact (Below.refl _ _).alloc (Nat.le_refl _) _
              have HKG : Hid (X3.heap.size ≤ KN) := by rw [hKN]; exact (unhide HSZ0).size
              rw [← hZ, ← hKN]
              have HSZ1 : Hid (Below X3.heap.size X3 Z1) := (unhide HSZ0).trans (hbx.mono (unhide HSZ0).size)
              clear hZ hKN hbx
              refine hK _ _ (fun _ => unhide HSZ1) ?_
              clear hK K
              simp only [Act.put, List.setIfInBounds_toArray, List.set_cons_zero, List.set_cons_succ]
              refine wpAnyL_one (i := 1) (by kernel_rfl) rfl (by rfl) fun K hK => ?_
              refine wp_call_fn 13 _ _ (by rfl) #[obV a.key va na ma] (by with_unfolding_all rfl) entLT (some 84) (by rfl) _ (asV2 (kTwin Z1 ((unhide HLA).toSx.below (unhide HSZ1)))) ?_
              rintro _ Z2 ⟨xt1, rfl, hsx, hbx⟩
              have HT1 := hide hsx
              have HSZ2 : Hid (Below X3.heap.size X3 Z2) := (unhide HSZ1).trans (hbx.mono (unhide HSZ1).size)
              replace HY := hide (box_below (unhide HY) hbx)
              clear hsx hbx
              refine hK _ _ (fun _ => unhide HSZ2) ?_
              clear hK K
              simp only [Act.put, List.setIfInBounds_toArray, List.set_cons_zero, List.set_cons_succ]
              refine wpAnyL_one (i := 3) (by kernel_rfl) rfl (by rfl) fun K hK => ?_
              refine wp_call_fn 13 _ _ (by rfl) #[obV a.key va na ma] (by with_unfolding_all rfl) entLT (some 86) (by rfl) _ (asV2 (kTwin Z2 ((unhide HLA).toSx.below (unhide HSZ2)))) ?_
              rintro _ Z3 ⟨xt2, rfl, hsx, hbx⟩
              have HT2 := hide hsx
              have HSZ3 : Hid (Below X3.heap.size X3 Z3) := (unhide HSZ2).trans (hbx.mono (unhide HSZ2).size)
              replace HT1 := hide ((unhide HT1).below hbx)
              replace HY := hide (box_below (unhide HY) hbx)
              clear hsx hbx
              refine hK _ _ (fun _ => unhide HSZ3) ?_
              clear hK K
              simp only [Act.put, List.setIfInBounds_toArray, List.set_cons_zero, List.set_cons_succ]
              refine wpAnyL_one (i := 4) (by kernel_rfl) rfl (by rfl) fun K hK => ?_
              have HKB : Hid (KN < Z3.heap.size) := heap_lt (unhide HY)
              refine wp_call_fn 22 _ _ (by rfl) #[obV a.key xt1 na ma, obV a.key xt2 na ma] (by with_unfolding_all rfl) entMg (some 87) (by rfl) _ (kMerge (unhide HT1) (unhide HT2) (unhide HM3)) ?_
              rintro _ Z4 ⟨xm, km, lm, rfl, hsx, hbx⟩
              have HMO := hide hsx
              have HSZ4 : Hid (Below X3.heap.size X3 Z4) := (unhide HSZ3).trans (hbx.mono (unhide HSZ3).size)
              replace HT1 := hide ((unhide HT1).below hbx)
              replace HT2 := hide ((unhide HT2).below hbx)
              replace HY := hide (box_below (unhide HY) hbx)
              have HFAR : Hid (∀ g, xm.has AA.st.seen.length AA.st.sibs.length g → g ≠ KN) := fun g hg => by
                have h1 := ((unhide HMO).own.lt hg).1
                have h2 := unhide HKB
                omega
              clear hsx hbx
              refine hK _ _ (fun _ => unhide HSZ4) ?_
              clear hK K
              simp only [Act.put, List.setIfInBounds_toArray, List.set_cons_zero, List.set_cons_succ]
              refine wpAnyL_take 5 82 (.tuple #[obV AA.key xm km lm, .int .i64 g]) [] rfl rfl (by kernel_rfl) (by kernel_rfl) (by kernel_rfl) (by kernel_rfl) (by kernel_rfl) (fun _ _ _ h => h) (by rfl) (fun _ _ => by go_simp) (unhide HSZ4) ?_
              simp only [Act.put, List.setIfInBounds_toArray, List.set_cons_zero, List.set_cons_succ]
              refine wpAnyL_take 6 88 (obV AA.key xm km lm) [] rfl rfl (by kernel_rfl) (by kernel_rfl) (by kernel_rfl) (by kernel_rfl) (by kernel_rfl) (fun _ _ _ h => h) (by rfl) (fun _ _ => by go_simp) (unhide HSZ4) ?_
              simp only [Act.put, List.setIfInBounds_toArray, List.set_cons_zero, List.set_cons_succ]
              refine wpAnyL_take 7 89 (.int .i64 g) [] rfl rfl (by kernel_rfl) (by kernel_rfl) (by kernel_rfl) (by kernel_rfl) (by kernel_rfl) (fun _ _ _ h => h) (by rfl) (fun _ _ => by go_simp) (unhide HSZ4) ?_
              simp only [Act.put, List.setIfInBounds_toArray, List.set_cons_zero, List.set_cons_succ]
              refine wpAnyL_one (i := 9) (by kernel_rfl) rfl (by rfl) fun K hK => ?_
              refine wp_store_ob (.tmp 11) (.tmp 88) (by rfl) (by rfl) KN AA.key xm km lm (by with_unfolding_all rfl) (by with_unfolding_all rfl) _ _ _ _ (unhide HY) ?_
              obtain ⟨Z5, hZ⟩ : ∃ Z, Z = Z4.setRow KN #[.string AA.key, .slice xm.sa km xm.sc, .slice xm.ba lm xm.bc] := ⟨_, rfl⟩
              have HYY : Hid (Z5.heap[KN]? = some (obRow AA.key xm km lm)) := by rw [hZ]; exact heapRow_same (unhide HY) _
              have HSE : Hid (Below X3.heap.size X3 Z5) := by rw [hZ]; exact belowRow (unhide HSZ4) (unhide HKG) _
              have HLN : Hid (Lo Z5 KN AA xm km lm) := ⟨⟨((unhide HMO).own.keep fun g hg => by rw [hZ]; exact heapRow_other _ _ _ _ (unhide HFAR g hg)).at (unhide HF3).2 (unhide HF3).1, (unhide HMO).ek, (unhide HMO).el⟩, unhide HYY⟩
              rw [← hZ]
              clear hZ
              refine hK _ _ (fun _ => unhide HSE) ?_
              clear hK K
              refine wpAnyL_one (i := 10) (by kernel_rfl) rfl (by rfl) fun K hK => ?_
              refine wp_val (.int .i64 g) (by go_simp) (some 12) (by rfl) ?_
              refine hK _ _ (fun _ => unhide HSE) ?_
              clear hK K
              simp only [Act.put, List.setIfInBounds_toArray, List.set_cons_zero, List.set_cons_succ]
              refine wpAnyL_done (by kernel_rfl) ?_ _
              go_wp2_with fail
              go_meet
              exact ⟨KN, xm, km, lm, rfl, rfl, ⟨unhide HLN, unhide HSE⟩⟩
        case rest =>
          obtain ⟨KF, xF, kF, lF, rfl, rfl, HC⟩ := hcut
          obtain ⟨X4, hW⟩ : ∃ W, W = wc := ⟨_, rfl⟩
          subst hW
          have hb := (unhide HC).2
          clear c0A c1A c2A c0B c1B c2B c0C c1C c2C c0D c1D c2D c0E c1E c2E
          replace HLA := hide ((unhide HLA).below hb)
          replace HLB := hide ((unhide HLB).below hb)
          replace HLC := hide ((unhide HLC).below hb)
          replace HLD := hide ((unhide HLD).below hb)
          replace HLE := hide ((unhide HLE).below hb)
          have HLF := hide (unhide HC).1
          replace HBU : Hid (Below N u X4) := (unhide HBU).trans (hb.mono (unhide HNW))
          replace HNW : Hid (N ≤ X4.heap.size) := Nat.le_trans (unhide HNW) hb.size
          clear hb HC
          obtain ⟨c0A, c1A, c2A⟩ := (unhide HLA).cells
          obtain ⟨c0B, c1B, c2B⟩ := (unhide HLB).cells
          obtain ⟨c0C, c1C, c2C⟩ := (unhide HLC).cells
          obtain ⟨c0D, c1D, c2D⟩ := (unhide HLD).cells
          obtain ⟨c0E, c1E, c2E⟩ := (unhide HLE).cells
          obtain ⟨c0F, c1F, c2F⟩ := (unhide HLF).cells
          go_upto_region 8 with fail
          go_cut [104] (fun sC wx => sC = .bool false ∧ Hid (Below X4.heap.size X4 wx))
          case first =>
            as_aux_lemma =>
              rcases unhide HG with ⟨hg, h1⟩ | hg
              · have HQ1 := hide h1
                subst hg
                clear h1
                go_wp2_with (first
                  | (go_at_call 13; refine (kTwin X4 (unhide HLA).toSx).mono ?_; rintro q V1 ⟨xv, rfl, hs, hb⟩; clear c0A c1A c2A c0B c1B c2B c0C c1C c2C c0D c1D c2D c0E c1E c2E c0F c1F c2F; have HV1 : Hid (Below X4.heap.size X4 V1) := hb; have HT := hide hs; clear hs; clear hb; obtain ⟨c0A, c1A, c2A⟩ := ((unhide HLA).below (unhide HV1)).cells; obtain ⟨c0B, c1B, c2B⟩ := ((unhide HLB).below (unhide HV1)).cells; obtain ⟨c0C, c1C, c2C⟩ := ((unhide HLC).below (unhide HV1)).cells; obtain ⟨c0D, c1D, c2D⟩ := ((unhide HLD).below (unhide HV1)).cells; obtain ⟨c0E, c1E, c2E⟩ := ((unhide HLE).below (unhide HV1)).cells; obtain ⟨c0F, c1F, c2F⟩ := ((unhide HLF).below (unhide HV1)).cells)
                  | (go_at_call 30; refine (oCheck (o := a) (unhide HT) 0 (unhide HCG)).mono ?_; rintro q V2 ⟨rfl, hb⟩; clear c0A c1A c2A c0B c1B c2B c0C c1C c2C c0D c1D c2D c0E c1E c2E c0F c1F c2F; have HV2 : Hid (Below X4.heap.size X4 V2) := (unhide HV1).trans (hb.mono (unhide HV1).size); clear HT; clear hb; obtain ⟨c0A, c1A, c2A⟩ := ((unhide HLA).below (unhide HV2)).cells; obtain ⟨c0B, c1B, c2B⟩ := ((unhide HLB).below (unhide HV2)).cells; obtain ⟨c0C, c1C, c2C⟩ := ((unhide HLC).below (unhide HV2)).cells; obtain ⟨c0D, c1D, c2D⟩ := ((unhide HLD).below (unhide HV2)).cells; obtain ⟨c0E, c1E, c2E⟩ := ((unhide HLE).below (unhide HV2)).cells; obtain ⟨c0F, c1F, c2F⟩ := ((unhide HLF).below (unhide HV2)).cells)
                  | (go_at_call 17; refine (klSame (a := AA) (b := a) ((unhide HLF).toSx.below (unhide HV2)) ((unhide HLA).toSx.below (unhide HV2)) true (sameO_iff.2 (unhide HQ1))).mono ?_; rintro q V3 ⟨rfl, hb⟩; clear c0A c1A c2A c0B c1B c2B c0C c1C c2C c0D c1D c2D c0E c1E c2E c0F c1F c2F; have HV3 : Hid (Below X4.heap.size X4 V3) := (unhide HV2).trans (hb.mono (unhide HV2).size); clear hb; obtain ⟨c0A, c1A, c2A⟩ := ((unhide HLA).below (unhide HV3)).cells; obtain ⟨c0B, c1B, c2B⟩ := ((unhide HLB).below (unhide HV3)).cells; obtain ⟨c0C, c1C, c2C⟩ := ((unhide HLC).below (unhide HV3)).cells; obtain ⟨c0D, c1D, c2D⟩ := ((unhide HLD).below (unhide HV3)).cells; obtain ⟨c0E, c1E, c2E⟩ := ((unhide HLE).below (unhide HV3)).cells; obtain ⟨c0F, c1F, c2F⟩ := ((unhide HLF).below (unhide HV3)).cells)
                  | fail)
                go_meet
                exact ⟨rfl, unhide HV3⟩
              · have hg' : (g == 0) = false := beq_eq_false_iff_ne.2 hg
                clear hg
                go_wp2_with (first
                  | (go_at_call 13; refine (kTwin X4 (unhide HLA).toSx).mono ?_; rintro q V1 ⟨xv, rfl, hs, hb⟩; clear c0A c1A c2A c0B c1B c2B c0C c1C c2C c0D c1D c2D c0E c1E c2E c0F c1F c2F; have HV1 : Hid (Below X4.heap.size X4 V1) := hb; have HT := hide hs; clear hs; clear hb; obtain ⟨c0A, c1A, c2A⟩ := ((unhide HLA).below (unhide HV1)).cells; obtain ⟨c0B, c1B, c2B⟩ := ((unhide HLB).below (unhide HV1)).cells; obtain ⟨c0C, c1C, c2C⟩ := ((unhide HLC).below (unhide HV1)).cells; obtain ⟨c0D, c1D, c2D⟩ := ((unhide HLD).below (unhide HV1)).cells; obtain ⟨c0E, c1E, c2E⟩ := ((unhide HLE).below (unhide HV1)).cells; obtain ⟨c0F, c1F, c2F⟩ := ((unhide HLF).below (unhide HV1)).cells)
                  | (go_at_call 30; refine (oCheck (o := a) (unhide HT) g (unhide HCG)).mono ?_; rintro q V2 ⟨rfl, hb⟩; clear c0A c1A c2A c0B c1B c2B c0C c1C c2C c0D c1D c2D c0E c1E c2E c0F c1F c2F; have HV2 : Hid (Below X4.heap.size X4 V2) := (unhide HV1).trans (hb.mono (unhide HV1).size); clear HT; clear hb; obtain ⟨c0A, c1A, c2A⟩ := ((unhide HLA).below (unhide HV2)).cells; obtain ⟨c0B, c1B, c2B⟩ := ((unhide HLB).below (unhide HV2)).cells; obtain ⟨c0C, c1C, c2C⟩ := ((unhide HLC).below (unhide HV2)).cells; obtain ⟨c0D, c1D, c2D⟩ := ((unhide HLD).below (unhide HV2)).cells; obtain ⟨c0E, c1E, c2E⟩ := ((unhide HLE).below (unhide HV2)).cells; obtain ⟨c0F, c1F, c2F⟩ := ((unhide HLF).below (unhide HV2)).cells)
                  | fail)
                go_meet
                exact ⟨rfl, unhide HV2⟩
          case rest =>
            obtain ⟨rfl, HC⟩ := hcut
            obtain ⟨X5, hW⟩ : ∃ W, W = wc := ⟨_, rfl⟩
            subst hW
            have hb := unhide HC
            clear c0A c1A c2A c0B c1B c2B c0C c1C c2C c0D c1D c2D c0E c1E c2E c0F c1F c2F
            replace HLA := hide ((unhide HLA).below hb)
            replace HLB := hide ((unhide HLB).below hb)
            replace HLC := hide ((unhide HLC).below hb)
            replace HLD := hide ((unhide HLD).below hb)
            replace HLE := hide ((unhide HLE).below hb)
            replace HLF := hide ((unhide HLF).below hb)
            replace HBU : Hid (Below N u X5) := (unhide HBU).trans (hb.mono (unhide HNW))
            replace HNW : Hid (N ≤ X5.heap.size) := Nat.le_trans (unhide HNW) hb.size
            clear hb HC
            obtain ⟨c0A, c1A, c2A⟩ := (unhide HLA).cells
            obtain ⟨c0B, c1B, c2B⟩ := (unhide HLB).cells
            obtain ⟨c0C, c1C, c2C⟩ := (unhide HLC).cells
            obtain ⟨c0D, c1D, c2D⟩ := (unhide HLD).cells
            obtain ⟨c0E, c1E, c2E⟩ := (unhide HLE).cells
            obtain ⟨c0F, c1F, c2F⟩ := (unhide HLF).cells
            go_upto_region 10 with fail
            go_cut [13, 14] (fun sA sB wx => ∃ K x k l, sA = .pointer (some ⟨K, 0, none⟩) ∧ sB = .int .i64 g ∧ Hid (Lo wx K NN x k l ∧ Below X5.heap.size X5 wx))
            case first =>
              as_aux_lemma =>
                clear c0A c1A c2A c0B c1B c2B c0C c1C c2C c0D c1D c2D c0E c1E c2E c0F c1F c2F
                refine wp_region_last (fun V => Below X5.heap.size X5 V) 11 hmix (belowDrew (Below.refl _ _)) fun hS => ?_
                have HSZ0 : Hid (Below X5.heap.size X5 X5.drew) := hS
                generalize X5.drew = Z0 at hS HSZ0 ⊢
                refine wpAnyL_take 0 106 (obV a.key va na ma) [] rfl rfl (by kernel_rfl) (by kernel_rfl) (by kernel_rfl) (by kernel_rfl) (by kernel_rfl) (fun _ _ _ h => h) (by rfl) (fun V hV => by obtain ⟨c0, c1, c2⟩ := ((unhide HLA).below hV).cells; simp only [obV]; go_simp) hS ?_
                simp only [Act.put, List.setIfInBounds_toArray, List.set_cons_zero, List.set_cons_succ]
                refine wpAnyL_take 2 108 (.pointer (some ⟨N, 0, none⟩)) [] rfl rfl (by kernel_rfl) (by kernel_rfl) (by kernel_rfl) (by kernel_rfl) (by kernel_rfl) (fun _ _ _ h => h) (by rfl) (fun _ _ => by go_simp) hS ?_
                simp only [Act.put, List.setIfInBounds_toArray, List.set_cons_zero, List.set_cons_succ]
                refine wpAnyL_take 3 109 (.string a.key) [] rfl rfl (by kernel_rfl) (by kernel_rfl) (by kernel_rfl) (by kernel_rfl) (by kernel_rfl) (fun _ _ _ h => h) (by rfl) (fun V hV => by obtain ⟨c0, c1, c2⟩ := ((unhide HLA).below hV).cells; go_simp) hS ?_
                simp only [Act.put, List.setIfInBounds_toArray, List.set_cons_zero, List.set_cons_succ]
                refine wpAnyL_take 4 110 (obV a.key Sv.none 0 0) [] rfl rfl (by kernel_rfl) (by kernel_rfl) (by kernel_rfl) (by kernel_rfl) (by kernel_rfl) (fun _ _ _ h => h) (by rfl) (fun _ _ => by simp only [obV, Sv.none]; go_simp) hS ?_
                simp only [Act.put, List.setIfInBounds_toArray, List.set_cons_zero, List.set_cons_succ]
                refine wpAnyL_two (i := 1) (j := 9) (by kernel_rfl) rfl rfl (by rfl) (by rfl) (fun K hK => ?_) (fun K hK => ?_)
                · refine wp_call_fn 13 _ _ (by rfl) #[obV a.key va na ma] (by with_unfolding_all rfl) entLT (some 107) (by rfl) _ (asV2 (kTwin Z0 ((unhide HLA).toSx.below (unhide HSZ0)))) ?_
                  rintro _ Z1 ⟨xt1, rfl, hsx, hbx⟩
                  have HT1 := hide hsx
                  have HSZ1 : Hid (Below X5.heap.size X5 Z1) := (unhide HSZ0).trans (hbx.mono (unhide HSZ0).size)
                  clear hsx hbx
                  refine hK _ _ (fun _ => unhide HSZ1) ?_
                  clear hK K
                  simp only [Act.put, List.setIfInBounds_toArray, List.set_cons_zero, List.set_cons_succ]
                  refine wpAnyL_two (i := 5) (j := 9) (by kernel_rfl) rfl rfl (by rfl) (by rfl) (fun K hK => ?_) (fun K hK => ?_)
                  · refine wp_call_fn 22 _ _ (by rfl) #[obV a.key xt1 na ma, obV a.key Sv.none 0 0] (by with_unfolding_all rfl) entMg (some 111) (by rfl) _ (kMerge (b := ⟨a.key, St.none⟩) (unhide HT1) (Sx.none _) (unhide HM4)) ?_
                    rintro _ Z2 ⟨xm, km, lm, rfl, hsx, hbx⟩
                    have HMO := hide hsx
                    have HSZ2 : Hid (Below X5.heap.size X5 Z2) := (unhide HSZ1).trans (hbx.mono (unhide HSZ1).size)
                    replace HT1 := hide ((unhide HT1).below hbx)
                    clear hsx hbx
                    refine hK _ _ (fun _ => unhide HSZ2) ?_
                    clear hK K
                    simp only [Act.put, List.setIfInBounds_toArray, List.set_cons_zero, List.set_cons_succ]
                    refine wpAnyL_take 6 105 (.tuple #[obV NN.key xm km lm, .int .i64 g]) [] rfl rfl (by kernel_rfl) (by kernel_rfl) (by kernel_rfl) (by kernel_rfl) (by kernel_rfl) (fun _ _ _ h => h) (by rfl) (fun _ _ => by go_simp) (unhide HSZ2) ?_
                    simp only [Act.put, List.setIfInBounds_toArray, List.set_cons_zero, List.set_cons_succ]
                    refine wpAnyL_take 7 112 (obV NN.key xm km lm) [] rfl rfl (by kernel_rfl) (by kernel_rfl) (by kernel_rfl) (by kernel_rfl) (by kernel_rfl) (fun _ _ _ h => h) (by rfl) (fun _ _ => by go_simp) (unhide HSZ2) ?_
                    simp only [Act.put, List.setIfInBounds_toArray, List.set_cons_zero, List.set_cons_succ]
                    refine wpAnyL_take 8 113 (.int .i64 g) [] rfl rfl (by kernel_rfl) (by kernel_rfl) (by kernel_rfl) (by kernel_rfl) (by kernel_rfl) (fun _ _ _ h => h) (by rfl) (fun _ _ => by go_simp) (unhide HSZ2) ?_
                    simp only [Act.put, List.setIfInBounds_toArray, List.set_cons_zero, List.set_cons_succ]
                    refine wpAnyL_one (i := 9) (by kernel_rfl) rfl (by rfl) fun K hK => ?_
                    refine wp_alloc_ob (by rfl) (some 13) (by rfl) ?_
                    obtain ⟨Z3, hZ⟩ : ∃ Z, Z = Z2.alloc (.cells #[.string ⟨#[]⟩, .slice none 0 0, .slice none 0 0] 33) := ⟨_, rfl⟩
                    obtain ⟨KN, hKN⟩ : ∃ K, K = Z2.heap.size := ⟨_, rfl⟩
                    have HY : Hid (Z3.heap[KN]? = some (obRow ⟨#[]⟩ Sv.none 0 0)) := by rw [hZ, hKN]; exact heap_alloc_new _ _
                    have hbx : Below Z2.heap.size Z2 Z3 := by rw [hZ]; exact (Below.refl _ _).alloc (Nat.le_refl _) _
                    have HKG : Hid (X5.heap.size ≤ KN) := by rw [hKN]; exact (unhide HSZ2).size
                    rw [← hZ, ← hKN]
                    have HSZ3 : Hid (Below X5.heap.size X5 Z3) := (unhide HSZ2).trans (hbx.mono (unhide HSZ2).size)
                    have HFAR : Hid (∀ g, xm.has NN.st.seen.length NN.st.sibs.length g → g ≠ KN) := fun g hg => by
                      have h1 := ((unhide HMO).own.lt hg).2
                      omega
                    replace HT1 := hide ((unhide HT1).below hbx)
                    replace HMO := hide ((unhide HMO).below hbx)
                    clear hZ hKN hbx
                    refine hK _ _ (fun _ => unhide HSZ3) ?_
                    clear hK K
                    simp only [Act.put, List.setIfInBounds_toArray, List.set_cons_zero, List.set_cons_succ]
                    refine wpAnyL_one (i := 10) (by kernel_rfl) rfl (by rfl) fun K hK => ?_
                    refine wp_store_ob (.tmp 13) (.tmp 112) (by rfl) (by rfl) KN NN.key xm km lm (by with_unfolding_all rfl) (by with_unfolding_all rfl) _ _ _ _ (unhide HY) ?_
                    obtain ⟨Z4, hZ⟩ : ∃ Z, Z = Z3.setRow KN #[.string NN.key, .slice xm.sa km xm.sc, .slice xm.ba lm xm.bc] := ⟨_, rfl⟩
                    have HYY : Hid (Z4.heap[KN]? = some (obRow NN.key xm km lm)) := by rw [hZ]; exact heapRow_same (unhide HY) _
                    have HSE : Hid (Below X5.heap.size X5 Z4) := by rw [hZ]; exact belowRow (unhide HSZ3) (unhide HKG) _
                    have HLN : Hid (Lo Z4 KN NN xm km lm) := ⟨⟨((unhide HMO).own.keep fun g hg => by rw [hZ]; exact heapRow_other _ _ _ _ (unhide HFAR g hg)).at (unhide HF4).2 (unhide HF4).1, (unhide HMO).ek, (unhide HMO).el⟩, unhide HYY⟩
                    rw [← hZ]
                    clear hZ
                    refine hK _ _ (fun _ => unhide HSE) ?_
                    clear hK K
                    refine wpAnyL_one (i := 11) (by kernel_rfl) rfl (by rfl) fun K hK => ?_
                    refine wp_val (.int .i64 g) (by go_simp) (some 14) (by rfl) ?_
                    refine hK _ _ (fun _ => unhide HSE) ?_
                    clear hK K
                    simp only [Act.put, List.setIfInBounds_toArray, List.set_cons_zero, List.set_cons_succ]
                    refine wpAnyL_done (by kernel_rfl) ?_ _
                    go_wp2_with fail
                    go_meet
                    exact ⟨KN, xm, km, lm, rfl, rfl, ⟨unhide HLN, unhide HSE⟩⟩
                  · refine wp_alloc_ob (by rfl) (some 13) (by rfl) ?_
                    obtain ⟨Z2, hZ⟩ : ∃ Z, Z = Z1.alloc (.cells #[.string ⟨#[]⟩, .slice none 0 0, .slice none 0 0] 33) := ⟨_, rfl⟩
                    obtain ⟨KN, hKN⟩ : ∃ K, K = Z1.heap.size := ⟨_, rfl⟩
                    have HY : Hid (Z2.heap[KN]? = some (obRow ⟨#[]⟩ Sv.none 0 0)) := by rw [hZ, hKN]; exact heap_alloc_new _ _
                    have hbx : Below Z1.heap.size Z1 Z2 := by rw [hZ]; exact (Below.refl _ _).alloc (Nat.le_refl _) _
                    have HKG : Hid (X5.heap.size ≤ KN) := by rw [hKN]; exact (unhide HSZ1).size
                    rw [← hZ, ← hKN]
                    have HSZ2 : Hid (Below X5.heap.size X5 Z2) := (unhide HSZ1).trans (hbx.mono (unhide HSZ1).size)
                    replace HT1 := hide ((unhide HT1).below hbx)
                    clear hZ hKN hbx
                    refine hK _ _ (fun _ => unhide HSZ2) ?_
                    clear hK K
                    simp only [Act.put, List.setIfInBounds_toArray, List.set_cons_zero, List.set_cons_succ]
                    refine wpAnyL_one (i := 5) (by kernel_rfl) rfl (by rfl) fun K hK => ?_
                    have HKB : Hid (KN < Z2.heap.size) := heap_lt (unhide HY)
                    refine wp_call_fn 22 _ _ (by rfl) #[obV a.key xt1 na ma, obV a.key Sv.none 0 0] (by with_unfolding_all rfl) entMg (some 111) (by rfl) _ (kMerge (b := ⟨a.key, St.none⟩) (unhide HT1) (Sx.none _) (unhide HM4)) ?_
                    rintro _ Z3 ⟨xm, km, lm, rfl, hsx, hbx⟩
                    have HMO := hide hsx
                    have HSZ3 : Hid (Below X5.heap.size X5 Z3) := (unhide HSZ2).trans (hbx.mono (unhide HSZ2).size)
                    replace HT1 := hide ((unhide HT1).below hbx)
                    replace HY := hide (box_below (unhide HY) hbx)
                    have HFAR : Hid (∀ g, xm.has NN.st.seen.length NN.st.sibs.length g → g ≠ KN) := fun g hg => by
                      have h1 := ((unhide HMO).own.lt hg).1
                      have h2 := unhide HKB
                      omega
                    clear hsx hbx
                    refine hK _ _ (fun _ => unhide HSZ3) ?_
                    clear hK K
                    simp only [Act.put, List.setIfInBounds_toArray, List.set_cons_zero, List.set_cons_succ]
                    refine wpAnyL_take 6 105 (.tuple #[obV NN.key xm km lm, .int .i64 g]) [] rfl rfl (by kernel_rfl) (by kernel_rfl) (by kernel_rfl) (by kernel_rfl) (by kernel_rfl) (fun _ _ _ h => h) (by rfl) (fun _ _ => by go_simp) (unhide HSZ3) ?_
                    simp only [Act.put, List.setIfInBounds_toArray, List.set_cons_zero, List.set_cons_succ]
                    refine wpAnyL_take 7 112 (obV NN.key xm km lm) [] rfl rfl (by kernel_rfl) (by kernel_rfl) (by kernel_rfl) (by kernel_rfl) (by kernel_rfl) (fun _ _ _ h => h) (by rfl) (fun _ _ => by go_simp) (unhide HSZ3) ?_
                    simp only [Act.put, List.setIfInBounds_toArray, List.set_cons_zero, List.set_cons_succ]
                    refine wpAnyL_take 8 113 (.int .i64 g) [] rfl rfl (by kernel_rfl) (by kernel_rfl) (by kernel_rfl) (by kernel_rfl) (by kernel_rfl) (fun _ _ _ h => h) (by rfl) (fun _ _ => by go_simp) (unhide HSZ3) ?_
                    simp only [Act.put, List.setIfInBounds_toArray, List.set_cons_zero, List.set_cons_succ]
                    refine wpAnyL_one (i := 10) (by kernel_rfl) rfl (by rfl) fun K hK => ?_
                    refine wp_store_ob (.tmp 13) (.tmp 112) (by rfl) (by rfl) KN NN.key xm km lm (by with_unfolding_all rfl) (by with_unfolding_all rfl) _ _ _ _ (unhide HY) ?_
                    obtain ⟨Z4, hZ⟩ : ∃ Z, Z = Z3.setRow KN #[.string NN.key, .slice xm.sa km xm.sc, .slice xm.ba lm xm.bc] := ⟨_, rfl⟩
                    have HYY : Hid (Z4.heap[KN]? = some (obRow NN.key xm km lm)) := by rw [hZ]; exact heapRow_same (unhide HY) _
                    have HSE : Hid (Below X5.heap.size X5 Z4) := by rw [hZ]; exact belowRow (unhide HSZ3) (unhide HKG) _
                    have HLN : Hid (Lo Z4 KN NN xm km lm) := ⟨⟨((unhide HMO).own.keep fun g hg => by rw [hZ]; exact heapRow_other _ _ _ _ (unhide HFAR g hg)).at (unhide HF4).2 (unhide HF4).1, (unhide HMO).ek, (unhide HMO).el⟩, unhide HYY⟩
                    rw [← hZ]
                    clear hZ
                    refine hK _ _ (fun _ => unhide HSE) ?_
                    clear hK K
                    refine wpAnyL_one (i := 11) (by kernel_rfl) rfl (by rfl) fun K hK => ?_
                    refine wp_val (.int .i64 g) (by go_simp) (some 14) (by rfl) ?_
                    refine hK _ _ (fun _ => unhide HSE) ?_
                    clear hK K
                    simp only [Act.put, List.setIfInBounds_toArray, List.set_cons_zero, List.set_cons_succ]
                    refine wpAnyL_done (by kernel_rfl) ?_ _
                    go_wp2_with fail
                    go_meet
                    exact ⟨KN, xm, km, lm, rfl, rfl, ⟨unhide HLN, unhide HSE⟩⟩
                · refine wp_alloc_ob (by rfl) (some 13) (by rfl) ?_
                  obtain ⟨Z1, hZ⟩ : ∃ Z, Z = Z0.alloc (.cells #[.string ⟨#[]⟩, .slice none 0 0, .slice none 0 0] 33) := ⟨_, rfl⟩
                  obtain ⟨KN, hKN⟩ : ∃ K, K = Z0.heap.size := ⟨_, rfl⟩
                  have HY : Hid (Z1.heap[KN]? = some (obRow ⟨#[]⟩ Sv.none 0 0)) := by rw [hZ, hKN]; exact heap_alloc_new _ _
                  have hbx : Below Z0.heap.size Z0 Z1 := by rw [hZ]; exact (Below.refl _ _).alloc (Nat.le_refl _) _
                  have HKG : Hid (X5.heap.size ≤ KN) := by rw [hKN]; exact (unhide HSZ0).size
                  rw [← hZ, ← hKN]
                  have HSZ1 : Hid (Below X5.heap.size X5 Z1) := (unhide HSZ0).trans (hbx.mono (unhide HSZ0).size)
                  clear hZ hKN hbx
                  refine hK _ _ (fun _ => unhide HSZ1) ?_
                  clear hK K
                  simp only [Act.put, List.setIfInBounds_toArray, List.set_cons_zero, List.set_cons_succ]
                  refine wpAnyL_one (i := 1) (by kernel_rfl) rfl (by rfl) fun K hK => ?_
                  refine wp_call_fn 13 _ _ (by rfl) #[obV a.key va na ma] (by with_unfolding_all rfl) entLT (some 107) (by rfl) _ (asV2 (kTwin Z1 ((unhide HLA).toSx.below (unhide HSZ1)))) ?_
                  rintro _ Z2 ⟨xt1, rfl, hsx, hbx⟩
                  have HT1 := hide hsx
                  have HSZ2 : Hid (Below X5.heap.size X5 Z2) := (unhide HSZ1).trans (hbx.mono (unhide HSZ1).size)
                  replace HY := hide (box_below (unhide HY) hbx)
                  clear hsx hbx
                  refine hK _ _ (fun _ => unhide HSZ2) ?_
                  clear hK K
                  simp only [Act.put, List.setIfInBounds_toArray, List.set_cons_zero, List.set_cons_succ]
                  refine wpAnyL_one (i := 5) (by kernel_rfl) rfl (by rfl) fun K hK => ?_
                  have HKB : Hid (KN < Z2.heap.size) := heap_lt (unhide HY)
                  refine wp_call_fn 22 _ _ (by rfl) #[obV a.key xt1 na ma, obV a.key Sv.none 0 0] (by with_unfolding_all rfl) entMg (some 111) (by rfl) _ (kMerge (b := ⟨a.key, St.none⟩) (unhide HT1) (Sx.none _) (unhide HM4)) ?_
                  rintro _ Z3 ⟨xm, km, lm, rfl, hsx, hbx⟩
                  have HMO := hide hsx
                  have HSZ3 : Hid (Below X5.heap.size X5 Z3) := (unhide HSZ2).trans (hbx.mono (unhide HSZ2).size)
                  replace HT1 := hide ((unhide HT1).below hbx)
                  replace HY := hide (box_below (unhide HY) hbx)
                  have HFAR : Hid (∀ g, xm.has NN.st.seen.length NN.st.sibs.length g → g ≠ KN) := fun g hg => by
                    have h1 := ((unhide HMO).own.lt hg).1
                    have h2 := unhide HKB
                    omega
                  clear hsx hbx
                  refine hK _ _ (fun _ => unhide HSZ3) ?_
                  clear hK K
                  simp only [Act.put, List.setIfInBounds_toArray, List.set_cons_zero, List.set_cons_succ]
                  refine wpAnyL_take 6 105 (.tuple #[obV NN.key xm km lm, .int .i64 g]) [] rfl rfl (by kernel_rfl) (by kernel_rfl) (by kernel_rfl) (by kernel_rfl) (by kernel_rfl) (fun _ _ _ h => h) (by rfl) (fun _ _ => by go_simp) (unhide HSZ3) ?_
                  simp only [Act.put, List.setIfInBounds_toArray, List.set_cons_zero, List.set_cons_succ]
                  refine wpAnyL_take 7 112 (obV NN.key xm km lm) [] rfl rfl (by kernel_rfl) (by kernel_rfl) (by kernel_rfl) (by kernel_rfl) (by kernel_rfl) (fun _ _ _ h => h) (by rfl) (fun _ _ => by go_simp) (unhide HSZ3) ?_
                  simp only [Act.put, List.setIfInBounds_toArray, List.set_cons_zero, List.set_cons_succ]
                  refine wpAnyL_take 8 113 (.int .i64 g) [] rfl rfl (by kernel_rfl) (by kernel_rfl) (by kernel_rfl) (by kernel_rfl) (by kernel_rfl) (fun _ _ _ h => h) (by rfl) (fun _ _ => by go_simp) (unhide HSZ3) ?_
                  simp only [Act.put, List.setIfInBounds_toArray, List.set_cons_zero, List.set_cons_succ]
                  refine wpAnyL_one (i := 10) (by kernel_rfl) rfl (by rfl) fun K hK => ?_
                  refine wp_store_ob (.tmp 13) (.tmp 112) (by rfl) (by rfl) KN NN.key xm km lm (by with_unfolding_all rfl) (by with_unfolding_all rfl) _ _ _ _ (unhide HY) ?_
                  obtain ⟨Z4, hZ⟩ : ∃ Z, Z = Z3.setRow KN #[.string NN.key, .slice xm.sa km xm.sc, .slice xm.ba lm xm.bc] := ⟨_, rfl⟩
                  have HYY : Hid (Z4.heap[KN]? = some (obRow NN.key xm km lm)) := by rw [hZ]; exact heapRow_same (unhide HY) _
                  have HSE : Hid (Below X5.heap.size X5 Z4) := by rw [hZ]; exact belowRow (unhide HSZ3) (unhide HKG) _
                  have HLN : Hid (Lo Z4 KN NN xm km lm) := ⟨⟨((unhide HMO).own.keep fun g hg => by rw [hZ]; exact heapRow_other _ _ _ _ (unhide HFAR g hg)).at (unhide HF4).2 (unhide HF4).1, (unhide HMO).ek, (unhide HMO).el⟩, unhide HYY⟩
                  rw [← hZ]
                  clear hZ
                  refine hK _ _ (fun _ => unhide HSE) ?_
                  clear hK K
                  refine wpAnyL_one (i := 11) (by kernel_rfl) rfl (by rfl) fun K hK => ?_
                  refine wp_val (.int .i64 g) (by go_simp) (some 14) (by rfl) ?_
                  refine hK _ _ (fun _ => unhide HSE) ?_
                  clear hK K
                  simp only [Act.put, List.setIfInBounds_toArray, List.set_cons_zero, List.set_cons_succ]
                  refine wpAnyL_done (by kernel_rfl) ?_ _
                  go_wp2_with fail
                  go_meet
                  exact ⟨KN, xm, km, lm, rfl, rfl, ⟨unhide HLN, unhide HSE⟩⟩
            case rest =>
              obtain ⟨KG, xG, kG, lG, rfl, rfl, HC⟩ := hcut
              obtain ⟨X6, hW⟩ : ∃ W, W = wc := ⟨_, rfl⟩
              subst hW
              have hb := (unhide HC).2
              clear c0A c1A c2A c0B c1B c2B c0C c1C c2C c0D c1D c2D c0E c1E c2E c0F c1F c2F
              replace HLA := hide ((unhide HLA).below hb)
              replace HLB := hide ((unhide HLB).below hb)
              replace HLC := hide ((unhide HLC).below hb)
              replace HLD := hide ((unhide HLD).below hb)
              replace HLE := hide ((unhide HLE).below hb)
              replace HLF := hide ((unhide HLF).below hb)
              have HLG := hide (unhide HC).1
              replace HBU : Hid (Below N u X6) := (unhide HBU).trans (hb.mono (unhide HNW))
              replace HNW : Hid (N ≤ X6.heap.size) := Nat.le_trans (unhide HNW) hb.size
              clear hb HC
              obtain ⟨c0A, c1A, c2A⟩ := (unhide HLA).cells
              obtain ⟨c0B, c1B, c2B⟩ := (unhide HLB).cells
              obtain ⟨c0C, c1C, c2C⟩ := (unhide HLC).cells
              obtain ⟨c0D, c1D, c2D⟩ := (unhide HLD).cells
              obtain ⟨c0E, c1E, c2E⟩ := (unhide HLE).cells
              obtain ⟨c0F, c1F, c2F⟩ := (unhide HLF).cells
              obtain ⟨c0G, c1G, c2G⟩ := (unhide HLG).cells
              go_upto_region 11 with fail
              go_cut [126] (fun sC wx => sC = .bool false ∧ Hid (Below X6.heap.size X6 wx))
              case first =>
                as_aux_lemma =>
                  rcases unhide HH with ⟨hg, h1⟩ | hg
                  · have HQ1 := hide h1
                    subst hg
                    clear h1
                    go_wp2_with (first
                      | (go_at_call 17; refine (klSame (a := NN) (b := a) (unhide HLG).toSx (unhide HLA).toSx true (sameO_iff.2 (unhide HQ1))).mono ?_; rintro q V1 ⟨rfl, hb⟩; clear c0A c1A c2A c0B c1B c2B c0C c1C c2C c0D c1D c2D c0E c1E c2E c0F c1F c2F c0G c1G c2G; have HV1 : Hid (Below X6.heap.size X6 V1) := hb; clear hb; obtain ⟨c0A, c1A, c2A⟩ := ((unhide HLA).below (unhide HV1)).cells; obtain ⟨c0B, c1B, c2B⟩ := ((unhide HLB).below (unhide HV1)).cells; obtain ⟨c0C, c1C, c2C⟩ := ((unhide HLC).below (unhide HV1)).cells; obtain ⟨c0D, c1D, c2D⟩ := ((unhide HLD).below (unhide HV1)).cells; obtain ⟨c0E, c1E, c2E⟩ := ((unhide HLE).below (unhide HV1)).cells; obtain ⟨c0F, c1F, c2F⟩ := ((unhide HLF).below (unhide HV1)).cells; obtain ⟨c0G, c1G, c2G⟩ := ((unhide HLG).below (unhide HV1)).cells)
                      | fail)
                    go_meet
                    exact ⟨rfl, unhide HV1⟩
                  · have hg' : (g == 0) = false := beq_eq_false_iff_ne.2 hg
                    clear hg
                    go_wp2
                    go_meet
                    exact ⟨rfl, Below.refl _ _⟩
              case rest =>
                obtain ⟨rfl, HC⟩ := hcut
                obtain ⟨X7, hW⟩ : ∃ W, W = wc := ⟨_, rfl⟩
                subst hW
                have hb := unhide HC
                clear c0A c1A c2A c0B c1B c2B c0C c1C c2C c0D c1D c2D c0E c1E c2E c0F c1F c2F c0G c1G c2G
                replace HLA := hide ((unhide HLA).below hb)
                replace HLB := hide ((unhide HLB).below hb)
                replace HLC := hide ((unhide HLC).below hb)
                replace HLD := hide ((unhide HLD).below hb)
                replace HLE := hide ((unhide HLE).below hb)
                replace HLF := hide ((unhide HLF).below hb)
                replace HLG := hide ((unhide HLG).below hb)
                replace HBU : Hid (Below N u X7) := (unhide HBU).trans (hb.mono (unhide HNW))
                replace HNW : Hid (N ≤ X7.heap.size) := Nat.le_trans (unhide HNW) hb.size
                clear hb HC
                obtain ⟨c0A, c1A, c2A⟩ := (unhide HLA).cells
                obtain ⟨c0B, c1B, c2B⟩ := (unhide HLB).cells
                obtain ⟨c0C, c1C, c2C⟩ := (unhide HLC).cells
                obtain ⟨c0D, c1D, c2D⟩ := (unhide HLD).cells
                obtain ⟨c0E, c1E, c2E⟩ := (unhide HLE).cells
                obtain ⟨c0F, c1F, c2F⟩ := (unhide HLF).cells
                obtain ⟨c0G, c1G, c2G⟩ := (unhide HLG).cells
                go_upto_region 13 with fail
                go_cut [15, 16] (fun sA sB wx => ∃ K x k l, sA = .pointer (some ⟨K, 0, none⟩) ∧ sB = .int .i64 i ∧ Hid (Lo wx K BC x k l ∧ Below X7.heap.size X7 wx))
                case first =>
                  as_aux_lemma =>
                    clear c0A c1A c2A c0B c1B c2B c0C c1C c2C c0D c1D c2D c0E c1E c2E c0F c1F c2F c0G c1G c2G
                    refine wp_region_last (fun V => Below X7.heap.size X7 V) 10 hmix (belowDrew (Below.refl _ _)) fun hS => ?_
                    have HSZ0 : Hid (Below X7.heap.size X7 X7.drew) := hS
                    generalize X7.drew = Z0 at hS HSZ0 ⊢
                    refine wpAnyL_take 0 128 (obV b.key vb nb mb) [] rfl rfl (by kernel_rfl) (by kernel_rfl) (by kernel_rfl) (by kernel_rfl) (by kernel_rfl) (fun _ _ _ h => h) (by rfl) (fun V hV => by obtain ⟨c0, c1, c2⟩ := ((unhide HLB).below hV).cells; simp only [obV]; go_simp) hS ?_
                    simp only [Act.put, List.setIfInBounds_toArray, List.set_cons_zero, List.set_cons_succ]
                    refine wpAnyL_take 2 130 (obV c.key vc nc mc) [] rfl rfl (by kernel_rfl) (by kernel_rfl) (by kernel_rfl) (by kernel_rfl) (by kernel_rfl) (fun _ _ _ h => h) (by rfl) (fun V hV => by obtain ⟨c0, c1, c2⟩ := ((unhide HLC).below hV).cells; simp only [obV]; go_simp) hS ?_
                    simp only [Act.put, List.setIfInBounds_toArray, List.set_cons_zero, List.set_cons_succ]
                    refine wpAnyL_two (i := 1) (j := 8) (by kernel_rfl) rfl rfl (by rfl) (by rfl) (fun K hK => ?_) (fun K hK => ?_)
                    · refine wp_call_fn 13 _ _ (by rfl) #[obV b.key vb nb mb] (by with_unfolding_all rfl) entLT (some 129) (by rfl) _ (asV2 (kTwin Z0 ((unhide HLB).toSx.below (unhide HSZ0)))) ?_
                      rintro _ Z1 ⟨xt1, rfl, hsx, hbx⟩
                      have HT1 := hide hsx
                      have HSZ1 : Hid (Below X7.heap.size X7 Z1) := (unhide HSZ0).trans (hbx.mono (unhide HSZ0).size)
                      clear hsx hbx
                      refine hK _ _ (fun _ => unhide HSZ1) ?_
                      clear hK K
                      simp only [Act.put, List.setIfInBounds_toArray, List.set_cons_zero, List.set_cons_succ]
                      refine wpAnyL_two (i := 3) (j := 8) (by kernel_rfl) rfl rfl (by rfl) (by rfl) (fun K hK => ?_) (fun K hK => ?_)
                      · refine wp_call_fn 13 _ _ (by rfl) #[obV c.key vc nc mc] (by with_unfolding_all rfl) entLT (some 131) (by rfl) _ (asV2 (kTwin Z1 ((unhide HLC).toSx.below (unhide HSZ1)))) ?_
                        rintro _ Z2 ⟨xt2, rfl, hsx, hbx⟩
                        have HT2 := hide hsx
                        have HSZ2 : Hid (Below X7.heap.size X7 Z2) := (unhide HSZ1).trans (hbx.mono (unhide HSZ1).size)
                        replace HT1 := hide ((unhide HT1).below hbx)
                        clear hsx hbx
                        refine hK _ _ (fun _ => unhide HSZ2) ?_
                        clear hK K
                        simp only [Act.put, List.setIfInBounds_toArray, List.set_cons_zero, List.set_cons_succ]
                        refine wpAnyL_two (i := 4) (j := 8) (by kernel_rfl) rfl rfl (by rfl) (by rfl) (fun K hK => ?_) (fun K hK => ?_)
                        · refine wp_call_fn 22 _ _ (by rfl) #[obV b.key xt1 nb mb, obV c.key xt2 nc mc] (by with_unfolding_all rfl) entMg (some 132) (by rfl) _ (kMerge (unhide HT1) (unhide HT2) (unhide HM5)) ?_
                          rintro _ Z3 ⟨xm, km, lm, rfl, hsx, hbx⟩
                          have HMO := hide hsx
                          have HSZ3 : Hid (Below X7.heap.size X7 Z3) := (unhide HSZ2).trans (hbx.mono (unhide HSZ2).size)
                          replace HT1 := hide ((unhide HT1).below hbx)
                          replace HT2 := hide ((unhide HT2).below hbx)
                          clear hsx hbx
                          refine hK _ _ (fun _ => unhide HSZ3) ?_
                          clear hK K
                          simp only [Act.put, List.setIfInBounds_toArray, List.set_cons_zero, List.set_cons_succ]
                          refine wpAnyL_take 5 127 (.tuple #[obV BC.key xm km lm, .int .i64 i]) [] rfl rfl (by kernel_rfl) (by kernel_rfl) (by kernel_rfl) (by kernel_rfl) (by kernel_rfl) (fun _ _ _ h => h) (by rfl) (fun _ _ => by go_simp) (unhide HSZ3) ?_
                          simp only [Act.put, List.setIfInBounds_toArray, List.set_cons_zero, List.set_cons_succ]
                          refine wpAnyL_take 6 133 (obV BC.key xm km lm) [] rfl rfl (by kernel_rfl) (by kernel_rfl) (by kernel_rfl) (by kernel_rfl) (by kernel_rfl) (fun _ _ _ h => h) (by rfl) (fun _ _ => by go_simp) (unhide HSZ3) ?_
                          simp only [Act.put, List.setIfInBounds_toArray, List.set_cons_zero, List.set_cons_succ]
                          refine wpAnyL_take 7 134 (.int .i64 i) [] rfl rfl (by kernel_rfl) (by kernel_rfl) (by kernel_rfl) (by kernel_rfl) (by kernel_rfl) (fun _ _ _ h => h) (by rfl) (fun _ _ => by go_simp) (unhide HSZ3) ?_
                          simp only [Act.put, List.setIfInBounds_toArray, List.set_cons_zero, List.set_cons_succ]
                          refine wpAnyL_one (i := 8) (by kernel_rfl) rfl (by rfl) fun K hK => ?_
                          refine wp_alloc_ob (by rfl) (some 15) (by rfl) ?_
                          obtain ⟨Z4, hZ⟩ : ∃ Z, Z = Z3.alloc (.cells #[.string ⟨#[]⟩, .slice none 0 0, .slice none 0 0] 33) := ⟨_, rfl⟩
                          obtain ⟨KN, hKN⟩ : ∃ K, K = Z3.heap.size := ⟨_, rfl⟩
                          have HY : Hid (Z4.heap[KN]? = some (obRow ⟨#[]⟩ Sv.none 0 0)) := by rw [hZ, hKN]; exact heap_alloc_new _ _
                          have hbx : Below Z3.heap.size Z3 Z4 := by rw [hZ]; exact (Below.refl _ _).alloc (Nat.le_refl _) _
                          have HKG : Hid (X7.heap.size ≤ KN) := by rw [hKN]; exact (unhide HSZ3).size
                          rw [← hZ, ← hKN]
                          have HSZ4 : Hid (Below X7.heap.size X7 Z4) := (unhide HSZ3).trans (hbx.mono (unhide HSZ3).size)
                          have HFAR : Hid (∀ g, xm.has BC.st.seen.length BC.st.sibs.length g → g ≠ KN) := fun g hg => by
                            have h1 := ((unhide HMO).own.lt hg).2
                            omega
                          replace HT1 := hide ((unhide HT1).below hbx)
                          replace HT2 := hide ((unhide HT2).below hbx)
                          replace HMO := hide ((unhide HMO).below hbx)
                          clear hZ hKN hbx
                          refine hK _ _ (fun _ => unhide HSZ4) ?_
                          clear hK K
                          simp only [Act.put, List.setIfInBounds_toArray, List.set_cons_zero, List.set_cons_succ]
                          refine wpAnyL_one (i := 9) (by kernel_rfl) rfl (by rfl) fun K hK => ?_
                          refine wp_store_ob (.tmp 15) (.tmp 133) (by rfl) (by rfl) KN BC.key xm km lm (by with_unfolding_all rfl) (by with_unfolding_all rfl) _ _ _ _ (unhide HY) ?_
                          obtain ⟨Z5, hZ⟩ : ∃ Z, Z = Z4.setRow KN #[.string BC.key, .slice xm.sa km xm.sc, .slice xm.ba lm xm.bc] := ⟨_, rfl⟩
                          have HYY : Hid (Z5.heap[KN]? = some (obRow BC.key xm km lm)) := by rw [hZ]; exact heapRow_same (unhide HY) _
                          have HSE : Hid (Below X7.heap.size X7 Z5) := by rw [hZ]; exact belowRow (unhide HSZ4) (unhide HKG) _
                          have HLN : Hid (Lo Z5 KN BC xm km lm) := ⟨⟨((unhide HMO).own.keep fun g hg => by rw [hZ]; exact heapRow_other _ _ _ _ (unhide HFAR g hg)).at (unhide HF5).2 (unhide HF5).1, (unhide HMO).ek, (unhide HMO).el⟩, unhide HYY⟩
                          rw [← hZ]
                          clear hZ
                          refine hK _ _ (fun _ => unhide HSE) ?_
                          clear hK K
                          refine wpAnyL_one (i := 10) (by kernel_rfl) rfl (by rfl) fun K hK => ?_
                          refine wp_val (.int .i64 i) (by go_simp) (some 16) (by rfl) ?_
                          refine hK _ _ (fun _ => unhide HSE) ?_
                          clear hK K
                          simp only [Act.put, List.setIfInBounds_toArray, List.set_cons_zero, List.set_cons_succ]
                          refine wpAnyL_done (by kernel_rfl) ?_ _
                          go_wp2_with fail
                          go_meet
                          exact ⟨KN, xm, km, lm, rfl, rfl, ⟨unhide HLN, unhide HSE⟩⟩
                        · refine wp_alloc_ob (by rfl) (some 15) (by rfl) ?_
                          obtain ⟨Z3, hZ⟩ : ∃ Z, Z = Z2.alloc (.cells #[.string ⟨#[]⟩, .slice none 0 0, .slice none 0 0] 33) := ⟨_, rfl⟩
                          obtain ⟨KN, hKN⟩ : ∃ K, K = Z2.heap.size := ⟨_, rfl⟩
                          have HY : Hid (Z3.heap[KN]? = some (obRow ⟨#[]⟩ Sv.none 0 0)) := by rw [hZ, hKN]; exact heap_alloc_new _ _
                          have hbx : Below Z2.heap.size Z2 Z3 := by rw [hZ]; exact (Below.refl _ _).alloc (Nat.le_refl _) _
                          have HKG : Hid (X7.heap.size ≤ KN) := by rw [hKN]; exact (unhide HSZ2).size
                          rw [← hZ, ← hKN]
                          have HSZ3 : Hid (Below X7.heap.size X7 Z3) := (unhide HSZ2).trans (hbx.mono (unhide HSZ2).size)
                          replace HT1 := hide ((unhide HT1).below hbx)
                          replace HT2 := hide ((unhide HT2).below hbx)
                          clear hZ hKN hbx
                          refine hK _ _ (fun _ => unhide HSZ3) ?_
                          clear hK K
                          simp only [Act.put, List.setIfInBounds_toArray, List.set_cons_zero, List.set_cons_succ]
                          refine wpAnyL_one (i := 4) (by kernel_rfl) rfl (by rfl) fun K hK => ?_
                          have HKB : Hid (KN < Z3.heap.size) := heap_lt (unhide HY)
                          refine wp_call_fn 22 _ _ (by rfl) #[obV b.key xt1 nb mb, obV c.key xt2 nc mc] (by with_unfolding_all rfl) entMg (some 132) (by rfl) _ (kMerge (unhide HT1) (unhide HT2) (unhide HM5)) ?_
                          rintro _ Z4 ⟨xm, km, lm, rfl, hsx, hbx⟩
                          have HMO := hide hsx
                          have HSZ4 : Hid (Below X7.heap.size X7 Z4) := (unhide HSZ3).trans (hbx.mono (unhide HSZ3).size)
                          replace HT1 := hide ((unhide HT1).below hbx)
                          replace HT2 := hide ((unhide HT2).below hbx)
                          replace HY := hide (box_below (unhide HY) hbx)
                          have HFAR : Hid (∀ g, xm.has BC.st.seen.length BC.st.sibs.length g → g ≠ KN) := fun g hg => by
                            have h1 := ((unhide HMO).own.lt hg).1
                            have h2 := unhide HKB
                            omega
                          clear hsx hbx
                          refine hK _ _ (fun _ => unhide HSZ4) ?_
                          clear hK K
                          simp only [Act.put, List.setIfInBounds_toArray, List.set_cons_zero, List.set_cons_succ]
                          refine wpAnyL_take 5 127 (.tuple #[obV BC.key xm km lm, .int .i64 i]) [] rfl rfl (by kernel_rfl) (by kernel_rfl) (by kernel_rfl) (by kernel_rfl) (by kernel_rfl) (fun _ _ _ h => h) (by rfl) (fun _ _ => by go_simp) (unhide HSZ4) ?_
                          simp only [Act.put, List.setIfInBounds_toArray, List.set_cons_zero, List.set_cons_succ]
                          refine wpAnyL_take 6 133 (obV BC.key xm km lm) [] rfl rfl (by kernel_rfl) (by kernel_rfl) (by kernel_rfl) (by kernel_rfl) (by kernel_rfl) (fun _ _ _ h => h) (by rfl) (fun _ _ => by go_simp) (unhide HSZ4) ?_
                          simp only [Act.put, List.setIfInBounds_toArray, List.set_cons_zero, List.set_cons_succ]
                          refine wpAnyL_take 7 134 (.int .i64 i) [] rfl rfl (by kernel_rfl) (by kernel_rfl) (by kernel_rfl) (by kernel_rfl) (by kernel_rfl) (fun _ _ _ h => h) (by rfl) (fun _ _ => by go_simp) (unhide HSZ4) ?_
                          simp only [Act.put, List.setIfInBounds_toArray, List.set_cons_zero, List.set_cons_succ]
                          refine wpAnyL_one (i := 9) (by kernel_rfl) rfl (by rfl) fun K hK => ?_
                          refine wp_store_ob (.tmp 15) (.tmp 133) (by rfl) (by rfl) KN BC.key xm km lm (by with_unfolding_all rfl) (by with_unfolding_all rfl) _ _ _ _ (unhide HY) ?_
                          obtain ⟨Z5, hZ⟩ : ∃ Z, Z = Z4.setRow KN #[.string BC.key, .slice xm.sa km xm.sc, .slice xm.ba lm xm.bc] := ⟨_, rfl⟩
                          have HYY : Hid (Z5.heap[KN]? = some (obRow BC.key xm km lm)) := by rw [hZ]; exact heapRow_same (unhide HY) _
                          have HSE : Hid (Below X7.heap.size X7 Z5) := by rw [hZ]; exact belowRow (unhide HSZ4) (unhide HKG) _
                          have HLN : Hid (Lo Z5 KN BC xm km lm) := ⟨⟨((unhide HMO).own.keep fun g hg => by rw [hZ]; exact heapRow_other _ _ _ _ (unhide HFAR g hg)).at (unhide HF5).2 (unhide HF5).1, (unhide HMO).ek, (unhide HMO).el⟩, unhide HYY⟩
                          rw [← hZ]
                          clear hZ
                          refine hK _ _ (fun _ => unhide HSE) ?_
                          clear hK K
                          refine wpAnyL_one (i := 10) (by kernel_rfl) rfl (by rfl) fun K hK => ?_
                          refine wp_val (.int .i64 i) (by go_simp) (some 16) (by rfl) ?_
                          refine hK _ _ (fun _ => unhide HSE) ?_
                          clear hK K
                          simp only [Act.put, List.setIfInBounds_toArray, List.set_cons_zero, List.set_cons_succ]
                          refine wpAnyL_done (by kernel_rfl) ?_ _
                          go_wp2_with fail
                          go_meet
                          exact ⟨KN, xm, km, lm, rfl, rfl, ⟨unhide HLN, unhide HSE⟩⟩
                      · refine wp_alloc_ob (by rfl) (some 15) (by rfl) ?_
                        obtain ⟨Z2, hZ⟩ : ∃ Z, Z = Z1.alloc (.cells #[.string ⟨#[]⟩, .slice none 0 0, .slice none 0 0] 33) := ⟨_, rfl⟩
                        obtain ⟨KN, hKN⟩ : ∃ K, K = Z1.heap.size := ⟨_, rfl⟩
                        have HY : Hid (Z2.heap[KN]? = some (obRow ⟨#[]⟩ Sv.none 0 0)) := by rw [hZ, hKN]; exact heap_alloc_new _ _
                        have hbx : Below Z1.heap.size Z1 Z2 := by rw [hZ]; exact (Below.refl _ _).alloc (Nat.le_refl _) _
                        have HKG : Hid (X7.heap.size ≤ KN) := by rw [hKN]; exact (unhide HSZ1).size
                        rw [← hZ, ← hKN]
                        have HSZ2 : Hid (Below X7.heap.size X7 Z2) := (unhide HSZ1).trans (hbx.mono (unhide HSZ1).size)
                        replace HT1 := hide ((unhide HT1).below hbx)
                        clear hZ hKN hbx
                        refine hK _ _ (fun _ => unhide HSZ2) ?_
                        clear hK K
                        simp only [Act.put, List.setIfInBounds_toArray, List.set_cons_zero, List.set_cons_succ]
                        refine wpAnyL_one (i := 3) (by kernel_rfl) rfl (by rfl) fun K hK => ?_
                        refine wp_call_fn 13 _ _ (by rfl) #[obV c.key vc nc mc] (by with_unfolding_all rfl) entLT (some 131) (by rfl) _ (asV2 (kTwin Z2 ((unhide HLC).toSx.below (unhide HSZ2)))) ?_
                        rintro _ Z3 ⟨xt2, rfl, hsx, hbx⟩
                        have HT2 := hide hsx
                        have HSZ3 : Hid (Below X7.heap.size X7 Z3) := (unhide HSZ2).trans (hbx.mono (unhide HSZ2).size)
                        replace HT1 := hide ((unhide HT1).below hbx)
                        replace HY := hide (box_below (unhide HY) hbx)
                        clear hsx hbx
                        refine hK _ _ (fun _ => unhide HSZ3) ?_
                        clear hK K
                        simp only [Act.put, List.setIfInBounds_toArray, List.set_cons_zero, List.set_cons_succ]
                        refine wpAnyL_one (i := 4) (by kernel_rfl) rfl (by rfl) fun K hK => ?_
                        have HKB : Hid (KN < Z3.heap.size) := heap_lt (unhide HY)
                        refine wp_call_fn 22 _ _ (by rfl) #[obV b.key xt1 nb mb, obV c.key xt2 nc mc] (by with_unfolding_all rfl) entMg (some 132) (by rfl) _ (kMerge (unhide HT1) (unhide HT2) (unhide HM5)) ?_
                        rintro _ Z4 ⟨xm, km, lm, rfl, hsx, hbx⟩
                        have HMO := hide hsx
                        have HSZ4 : Hid (Below X7.heap.size X7 Z4) := (unhide HSZ3).trans (hbx.mono (unhide HSZ3).size)
                        replace HT1 := hide ((unhide HT1).below hbx)
                        replace HT2 := hide ((unhide HT2).below hbx)
                        replace HY := hide (box_below (unhide HY) hbx)
                        have HFAR : Hid (∀ g, xm.has BC.st.seen.length BC.st.sibs.length g → g ≠ KN) := fun g hg => by
                          have h1 := ((unhide HMO).own.lt hg).1
                          have h2 := unhide HKB
                          omega
                        clear hsx hbx
                        refine hK _ _ (fun _ => unhide HSZ4) ?_
                        clear hK K
                        simp only [Act.put, List.setIfInBounds_toArray, List.set_cons_zero, List.set_cons_succ]
                        refine wpAnyL_take 5 127 (.tuple #[obV BC.key xm km lm, .int .i64 i]) [] rfl rfl (by kernel_rfl) (by kernel_rfl) (by kernel_rfl) (by kernel_rfl) (by kernel_rfl) (fun _ _ _ h => h) (by rfl) (fun _ _ => by go_simp) (unhide HSZ4) ?_
                        simp only [Act.put, List.setIfInBounds_toArray, List.set_cons_zero, List.set_cons_succ]
                        refine wpAnyL_take 6 133 (obV BC.key xm km lm) [] rfl rfl (by kernel_rfl) (by kernel_rfl) (by kernel_rfl) (by kernel_rfl) (by kernel_rfl) (fun _ _ _ h => h) (by rfl) (fun _ _ => by go_simp) (unhide HSZ4) ?_
                        simp only [Act.put, List.setIfInBounds_toArray, List.set_cons_zero, List.set_cons_succ]
                        refine wpAnyL_take 7 134 (.int .i64 i) [] rfl rfl (by kernel_rfl) (by kernel_rfl) (by kernel_rfl) (by kernel_rfl) (by kernel_rfl) (fun _ _ _ h => h) (by rfl) (fun _ _ => by go_simp) (unhide HSZ4) ?_
                        simp only [Act.put, List.setIfInBounds_toArray, List.set_cons_zero, List.set_cons_succ]
                        refine wpAnyL_one (i := 9) (by kernel_rfl) rfl (by rfl) fun K hK => ?_
                        refine wp_store_ob (.tmp 15) (.tmp 133) (by rfl) (by rfl) KN BC.key xm km lm (by with_unfolding_all rfl) (by with_unfolding_all rfl) _ _ _ _ (unhide HY) ?_
                        obtain ⟨Z5, hZ⟩ : ∃ Z, Z = Z4.setRow KN #[.string BC.key, .slice xm.sa km xm.sc, .slice xm.ba lm xm.bc] := ⟨_, rfl⟩
                        have HYY : Hid (Z5.heap[KN]? = some (obRow BC.key xm km lm)) := by rw [hZ]; exact heapRow_same (unhide HY) _
                        have HSE : Hid (Below X7.heap.size X7 Z5) := by rw [hZ]; exact belowRow (unhide HSZ4) (unhide HKG) _
                        have HLN : Hid (Lo Z5 KN BC xm km lm) := ⟨⟨((unhide HMO).own.keep fun g hg => by rw [hZ]; exact heapRow_other _ _ _ _ (unhide HFAR g hg)).at (unhide HF5).2 (unhide HF5).1, (unhide HMO).ek, (unhide HMO).el⟩, unhide HYY⟩
                        rw [← hZ]
                        clear hZ
                        refine hK _ _ (fun _ => unhide HSE) ?_
                        clear hK K
                        refine wpAnyL_one (i := 10) (by kernel_rfl) rfl (by rfl) fun K hK => ?_
                        refine wp_val (.int .i64 i) (by go_simp) (some 16) (by rfl) ?_
                        refine hK _ _ (fun _ => unhide HSE) ?_
                        clear hK K
                        simp only [Act.put, List.setIfInBounds_toArray, List.set_cons_zero, List.set_cons_succ]
                        refine wpAnyL_done (by kernel_rfl) ?_ _
                        go_wp2_with fail
                        go_meet
                        exact ⟨KN, xm, km, lm, rfl, rfl, ⟨unhide HLN, unhide HSE⟩⟩
                    · refine wp_alloc_ob (by rfl) (some 15) (by rfl) ?_
                      obtain ⟨Z1, hZ⟩ : ∃ Z, Z = Z0.alloc (.cells #[.string ⟨#[]⟩, .slice none 0 0, .slice none 0 0] 33) := ⟨_, rfl⟩
                      obtain ⟨KN, hKN⟩ : ∃ K, K = Z0.heap.size := ⟨_, rfl⟩
                      have HY : Hid (Z1.heap[KN]? = some (obRow ⟨#[]⟩ Sv.none 0 0)) := by rw [hZ, hKN]; exact heap_alloc_new _ _
                      have hbx : Below Z0.heap.size Z0 Z1 := by rw [hZ]; exact (Below.refl _ _).alloc (Nat.le_refl _) _
                      have HKG : Hid (X7.heap.size ≤ KN) := by rw [hKN]; exact (unhide HSZ0).size
                      rw [← hZ, ← hKN]
                      have HSZ1 : Hid (Below X7.heap.size X7 Z1) := (unhide HSZ0).trans (hbx.mono (unhide HSZ0).size)
                      clear hZ hKN hbx
                      refine hK _ _ (fun _ => unhide HSZ1) ?_
                      clear hK K
                      simp only [Act.put, List.setIfInBounds_toArray, List.set_cons_zero, List.set_cons_succ]
                      refine wpAnyL_one (i := 1) (by kernel_rfl) rfl (by rfl) fun K hK => ?_
                      refine wp_call_fn 13 _ _ (by rfl) #[obV b.key vb nb mb] (by with_unfolding_all rfl) entLT (some 129) (by rfl) _ (asV2 (kTwin Z1 ((unhide HLB).toSx.below (unhide HSZ1)))) ?_
                      rintro _ Z2 ⟨xt1, rfl, hsx, hbx⟩
                      have HT1 := hide hsx
                      have HSZ2 : Hid (Below X7.heap.size X7 Z2) := (unhide HSZ1).trans (hbx.mono (unhide HSZ1).size)
                      replace HY := hide (box_below (unhide HY) hbx)
                      clear hsx hbx
                      refine hK _ _ (fun _ => unhide HSZ2) ?_
                      clear hK K
                      simp only [Act.put, List.setIfInBounds_toArray, List.set_cons_zero, List.set_cons_succ]
                      refine wpAnyL_one (i := 3) (by kernel_rfl) rfl (by rfl) fun K hK => ?_
                      refine wp_call_fn 13 _ _ (by rfl) #[obV c.key vc nc mc] (by with_unfolding_all rfl) entLT (some 131) (by rfl) _ (asV2 (kTwin Z2 ((unhide HLC).toSx.below (unhide HSZ2)))) ?_
                      rintro _ Z3 ⟨xt2, rfl, hsx, hbx⟩
                      have HT2 := hide hsx
                      have HSZ3 : Hid (Below X7.heap.size X7 Z3) := (unhide HSZ2).trans (hbx.mono (unhide HSZ2).size)
                      replace HT1 := hide ((unhide HT1).below hbx)
                      replace HY := hide (box_below (unhide HY) hbx)
                      clear hsx hbx
                      refine hK _ _ (fun _ => unhide HSZ3) ?_
                      clear hK K
                      simp only [Act.put, List.setIfInBounds_toArray, List.set_cons_zero, List.set_cons_succ]
                      refine wpAnyL_one (i := 4) (by kernel_rfl) rfl (by rfl) fun K hK => ?_
                      have HKB : Hid (KN < Z3.heap.size) := heap_lt (unhide HY)
                      refine wp_call_fn 22 _ _ (by rfl) #[obV b.key xt1 nb mb, obV c.key xt2 nc mc] (by with_unfolding_all rfl) entMg (some 132) (by rfl) _ (kMerge (unhide HT1) (unhide HT2) (unhide HM5)) ?_
                      rintro _ Z4 ⟨xm, km, lm, rfl, hsx, hbx⟩
                      have HMO := hide hsx
                      have HSZ4 : Hid (Below X7.heap.size X7 Z4) := (unhide HSZ3).trans (hbx.mono (unhide HSZ3).size)
                      replace HT1 := hide ((unhide HT1).below hbx)
                      replace HT2 := hide ((unhide HT2).below hbx)
                      replace HY := hide (box_below (unhide HY) hbx)
                      have HFAR : Hid (∀ g, xm.has BC.st.seen.length BC.st.sibs.length g → g ≠ KN) := fun g hg => by
                        have h1 := ((unhide HMO).own.lt hg).1
                        have h2 := unhide HKB
                        omega
                      clear hsx hbx
                      refine hK _ _ (fun _ => unhide HSZ4) ?_
                      clear hK K
                      simp only [Act.put, List.setIfInBounds_toArray, List.set_cons_zero, List.set_cons_succ]
                      refine wpAnyL_take 5 127 (.tuple #[obV BC.key xm km lm, .int .i64 i]) [] rfl rfl (by kernel_rfl) (by kernel_rfl) (by kernel_rfl) (by kernel_rfl) (by kernel_rfl) (fun _ _ _ h => h) (by rfl) (fun _ _ => by go_simp) (unhide HSZ4) ?_
                      simp only [Act.put, List.setIfInBounds_toArray, List.set_cons_zero, List.set_cons_succ]
                      refine wpAnyL_take 6 133 (obV BC.key xm km lm) [] rfl rfl (by kernel_rfl) (by kernel_rfl) (by kernel_rfl) (by kernel_rfl) (by kernel_rfl) (fun _ _ _ h => h) (by rfl) (fun _ _ => by go_simp) (unhide HSZ4) ?_
                      simp only [Act.put, List.setIfInBounds_toArray, List.set_cons_zero, List.set_cons_succ]
                      refine wpAnyL_take 7 134 (.int .i64 i) [] rfl rfl (by kernel_rfl) (by kernel_rfl) (by kernel_rfl) (by kernel_rfl) (by kernel_rfl) (fun _ _ _ h => h) (by rfl) (fun _ _ => by go_simp) (unhide HSZ4) ?_
                      simp only [Act.put, List.setIfInBounds_toArray, List.set_cons_zero, List.set_cons_succ]
                      refine wpAnyL_one (i := 9) (by kernel_rfl) rfl (by rfl) fun K hK => ?_
                      refine wp_store_ob (.tmp 15) (.tmp 133) (by rfl) (by rfl) KN BC.key xm km lm (by with_unfolding_all rfl) (by with_unfolding_all rfl) _ _ _ _ (unhide HY) ?_
                      obtain ⟨Z5, hZ⟩ : ∃ Z, Z = Z4.setRow KN #[.string BC.key, .slice xm.sa km xm.sc, .slice xm.ba lm xm.bc] := ⟨_, rfl⟩
                      have HYY : Hid (Z5.heap[KN]? = some (obRow BC.key xm km lm)) := by rw [hZ]; exact heapRow_same (unhide HY) _
                      have HSE : Hid (Below X7.heap.size X7 Z5) := by rw [hZ]; exact belowRow (unhide HSZ4) (unhide HKG) _
                      have HLN : Hid (Lo Z5 KN BC xm km lm) := ⟨⟨((unhide HMO).own.keep fun g hg => by rw [hZ]; exact heapRow_other _ _ _ _ (unhide HFAR g hg)).at (unhide HF5).2 (unhide HF5).1, (unhide HMO).ek, (unhide HMO).el⟩, unhide HYY⟩
                      rw [← hZ]
                      clear hZ
                      refine hK _ _ (fun _ => unhide HSE) ?_
                      clear hK K
                      refine wpAnyL_one (i := 10) (by kernel_rfl) rfl (by rfl) fun K hK => ?_
                      refine wp_val (.int .i64 i) (by go_simp) (some 16) (by rfl) ?_
                      refine hK _ _ (fun _ => unhide HSE) ?_
                      clear hK K
                      simp only [Act.put, List.setIfInBounds_toArray, List.set_cons_zero, List.set_cons_succ]
                      refine wpAnyL_done (by kernel_rfl) ?_ _
                      go_wp2_with fail
                      go_meet
                      exact ⟨KN, xm, km, lm, rfl, rfl, ⟨unhide HLN, unhide HSE⟩⟩
                case rest =>
                  obtain ⟨KH, xH, kH, lH, rfl, rfl, HC⟩ := hcut
                  obtain ⟨X8, hW⟩ : ∃ W, W = wc := ⟨_, rfl⟩
                  subst hW
                  have hb := (unhide HC).2
                  clear c0A c1A c2A c0B c1B c2B c0C c1C c2C c0D c1D c2D c0E c1E c2E c0F c1F c2F c0G c1G c2G
                  replace HLA := hide ((unhide HLA).below hb)
                  replace HLB := hide ((unhide HLB).below hb)
                  replace HLC := hide ((unhide HLC).below hb)
                  replace HLD := hide ((unhide HLD).below hb)
                  replace HLE := hide ((unhide HLE).below hb)
                  replace HLF := hide ((unhide HLF).below hb)
                  replace HLG := hide ((unhide HLG).below hb)
                  have HLH := hide (unhide HC).1
                  replace HBU : Hid (Below N u X8) := (unhide HBU).trans (hb.mono (unhide HNW))
                  replace HNW : Hid (N ≤ X8.heap.size) := Nat.le_trans (unhide HNW) hb.size
                  clear hb HC
                  obtain ⟨c0A, c1A, c2A⟩ := (unhide HLA).cells
                  obtain ⟨c0B, c1B, c2B⟩ := (unhide HLB).cells
                  obtain ⟨c0C, c1C, c2C⟩ := (unhide HLC).cells
                  obtain ⟨c0D, c1D, c2D⟩ := (unhide HLD).cells
                  obtain ⟨c0E, c1E, c2E⟩ := (unhide HLE).cells
                  obtain ⟨c0F, c1F, c2F⟩ := (unhide HLF).cells
                  obtain ⟨c0G, c1G, c2G⟩ := (unhide HLG).cells
                  obtain ⟨c0H, c1H, c2H⟩ := (unhide HLH).cells
                  go_upto_region 14 with fail
                  by_cases he : e = 0
                  · by_cases hi : i = 0
                    · subst he hi
                      go_upto_region 16 with fail
                      go_cut [17, 18] (fun sA sB wx => ∃ K x k l, sA = .pointer (some ⟨K, 0, none⟩) ∧ sB = .int .i64 j ∧ Hid (Lo wx K XX x k l ∧ Below X8.heap.size X8 wx))
                      case first =>
                        as_aux_lemma =>
                          clear c0A c1A c2A c0B c1B c2B c0C c1C c2C c0D c1D c2D c0E c1E c2E c0F c1F c2F c0G c1G c2G c0H c1H c2H
                          refine wp_region_last (fun V => Below X8.heap.size X8 V) 9 hmix (belowDrew (Below.refl _ _)) fun hS => ?_
                          have HSZ0 : Hid (Below X8.heap.size X8 X8.drew) := hS
                          generalize X8.drew = Z0 at hS HSZ0 ⊢
                          refine wpAnyL_take 0 142 (obV AB.key xD kD lD) [] rfl rfl (by kernel_rfl) (by kernel_rfl) (by kernel_rfl) (by kernel_rfl) (by kernel_rfl) (fun _ _ _ h => h) (by rfl) (fun V hV => by obtain ⟨c0, c1, c2⟩ := ((unhide HLD).below hV).cells; simp only [obV]; go_simp) hS ?_
                          simp only [Act.put, List.setIfInBounds_toArray, List.set_cons_zero, List.set_cons_succ]
                          refine wpAnyL_take 1 143 (obV c.key vc nc mc) [] rfl rfl (by kernel_rfl) (by kernel_rfl) (by kernel_rfl) (by kernel_rfl) (by kernel_rfl) (fun _ _ _ h => h) (by rfl) (fun V hV => by obtain ⟨c0, c1, c2⟩ := ((unhide HLC).below hV).cells; simp only [obV]; go_simp) hS ?_
                          simp only [Act.put, List.setIfInBounds_toArray, List.set_cons_zero, List.set_cons_succ]
                          refine wpAnyL_two (i := 2) (j := 7) (by kernel_rfl) rfl rfl (by rfl) (by rfl) (fun K hK => ?_) (fun K hK => ?_)
                          · refine wp_call_fn 13 _ _ (by rfl) #[obV c.key vc nc mc] (by with_unfolding_all rfl) entLT (some 144) (by rfl) _ (asV2 (kTwin Z0 ((unhide HLC).toSx.below (unhide HSZ0)))) ?_
                            rintro _ Z1 ⟨xt1, rfl, hsx, hbx⟩
                            have HT1 := hide hsx
                            have HSZ1 : Hid (Below X8.heap.size X8 Z1) := (unhide HSZ0).trans (hbx.mono (unhide HSZ0).size)
                            clear hsx hbx
                            refine hK _ _ (fun _ => unhide HSZ1) ?_
                            clear hK K
                            simp only [Act.put, List.setIfInBounds_toArray, List.set_cons_zero, List.set_cons_succ]
                            refine wpAnyL_two (i := 3) (j := 7) (by kernel_rfl) rfl rfl (by rfl) (by rfl) (fun K hK => ?_) (fun K hK => ?_)
                            · refine wp_call_fn 22 _ _ (by rfl) #[obV AB.key xD kD lD, obV c.key xt1 nc mc] (by with_unfolding_all rfl) entMg (some 145) (by rfl) _ (kMerge ((unhide HLD).toSx.below (unhide HSZ1)) (unhide HT1) (unhide HM6)) ?_
                              rintro _ Z2 ⟨xm, km, lm, rfl, hsx, hbx⟩
                              have HMO := hide hsx
                              have HSZ2 : Hid (Below X8.heap.size X8 Z2) := (unhide HSZ1).trans (hbx.mono (unhide HSZ1).size)
                              replace HT1 := hide ((unhide HT1).below hbx)
                              clear hsx hbx
                              refine hK _ _ (fun _ => unhide HSZ2) ?_
                              clear hK K
                              simp only [Act.put, List.setIfInBounds_toArray, List.set_cons_zero, List.set_cons_succ]
                              refine wpAnyL_take 4 141 (.tuple #[obV XX.key xm km lm, .int .i64 j]) [] rfl rfl (by kernel_rfl) (by kernel_rfl) (by kernel_rfl) (by kernel_rfl) (by kernel_rfl) (fun _ _ _ h => h) (by rfl) (fun _ _ => by go_simp) (unhide HSZ2) ?_
                              simp only [Act.put, List.setIfInBounds_toArray, List.set_cons_zero, List.set_cons_succ]
                              refine wpAnyL_take 5 146 (obV XX.key xm km lm) [] rfl rfl (by kernel_rfl) (by kernel_rfl) (by kernel_rfl) (by kernel_rfl) (by kernel_rfl) (fun _ _ _ h => h) (by rfl) (fun _ _ => by go_simp) (unhide HSZ2) ?_
                              simp only [Act.put, List.setIfInBounds_toArray, List.set_cons_zero, List.set_cons_succ]
                              refine wpAnyL_take 6 147 (.int .i64 j) [] rfl rfl (by kernel_rfl) (by kernel_rfl) (by kernel_rfl) (by kernel_rfl) (by kernel_rfl) (fun _ _ _ h => h) (by rfl) (fun _ _ => by go_simp) (unhide HSZ2) ?_
                              simp only [Act.put, List.setIfInBounds_toArray, List.set_cons_zero, List.set_cons_succ]
                              refine wpAnyL_one (i := 7) (by kernel_rfl) rfl (by rfl) fun K hK => ?_
                              refine wp_alloc_ob (by rfl) (some 17) (by rfl) ?_
                              obtain ⟨Z3, hZ⟩ : ∃ Z, Z = Z2.alloc (.cells #[.string ⟨#[]⟩, .slice none 0 0, .slice none 0 0] 33) := ⟨_, rfl⟩
                              obtain ⟨KN, hKN⟩ : ∃ K, K = Z2.heap.size := ⟨_, rfl⟩
                              have HY : Hid (Z3.heap[KN]? = some (obRow ⟨#[]⟩ Sv.none 0 0)) := by rw [hZ, hKN]; exact heap_alloc_new _ _
                              have hbx : Below Z2.heap.size Z2 Z3 := by rw [hZ]; exact (Below.refl _ _).alloc (Nat.le_refl _) _
                              have HKG : Hid (X8.heap.size ≤ KN) := by rw [hKN]; exact (unhide HSZ2).size
                              rw [← hZ, ← hKN]
                              have HSZ3 : Hid (Below X8.heap.size X8 Z3) := (unhide HSZ2).trans (hbx.mono (unhide HSZ2).size)
                              have HFAR : Hid (∀ g, xm.has XX.st.seen.length XX.st.sibs.length g → g ≠ KN) := fun g hg => by
                                have h1 := ((unhide HMO).own.lt hg).2
                                omega
                              replace HT1 := hide ((unhide HT1).below hbx)
                              replace HMO := hide ((unhide HMO).below hbx)
                              clear hZ hKN hbx
                              refine hK _ _ (fun _ => unhide HSZ3) ?_
                              clear hK K
                              simp only [Act.put, List.setIfInBounds_toArray, List.set_cons_zero, List.set_cons_succ]
                              refine wpAnyL_one (i := 8) (by kernel_rfl) rfl (by rfl) fun K hK => ?_
                              refine wp_store_ob (.tmp 17) (.tmp 146) (by rfl) (by rfl) KN XX.key xm km lm (by with_unfolding_all rfl) (by with_unfolding_all rfl) _ _ _ _ (unhide HY) ?_
                              obtain ⟨Z4, hZ⟩ : ∃ Z, Z = Z3.setRow KN #[.string XX.key, .slice xm.sa km xm.sc, .slice xm.ba lm xm.bc] := ⟨_, rfl⟩
                              have HYY : Hid (Z4.heap[KN]? = some (obRow XX.key xm km lm)) := by rw [hZ]; exact heapRow_same (unhide HY) _
                              have HSE : Hid (Below X8.heap.size X8 Z4) := by rw [hZ]; exact belowRow (unhide HSZ3) (unhide HKG) _
                              have HLN : Hid (Lo Z4 KN XX xm km lm) := ⟨⟨((unhide HMO).own.keep fun g hg => by rw [hZ]; exact heapRow_other _ _ _ _ (unhide HFAR g hg)).at (unhide HF6).2 (unhide HF6).1, (unhide HMO).ek, (unhide HMO).el⟩, unhide HYY⟩
                              rw [← hZ]
                              clear hZ
                              refine hK _ _ (fun _ => unhide HSE) ?_
                              clear hK K
                              refine wpAnyL_one (i := 9) (by kernel_rfl) rfl (by rfl) fun K hK => ?_
                              refine wp_val (.int .i64 j) (by go_simp) (some 18) (by rfl) ?_
                              refine hK _ _ (fun _ => unhide HSE) ?_
                              clear hK K
                              simp only [Act.put, List.setIfInBounds_toArray, List.set_cons_zero, List.set_cons_succ]
                              refine wpAnyL_done (by kernel_rfl) ?_ _
                              go_wp2_with fail
                              go_meet
                              exact ⟨KN, xm, km, lm, rfl, rfl, ⟨unhide HLN, unhide HSE⟩⟩
                            · refine wp_alloc_ob (by rfl) (some 17) (by rfl) ?_
                              obtain ⟨Z2, hZ⟩ : ∃ Z, Z = Z1.alloc (.cells #[.string ⟨#[]⟩, .slice none 0 0, .slice none 0 0] 33) := ⟨_, rfl⟩
                              obtain ⟨KN, hKN⟩ : ∃ K, K = Z1.heap.size := ⟨_, rfl⟩
                              have HY : Hid (Z2.heap[KN]? = some (obRow ⟨#[]⟩ Sv.none 0 0)) := by rw [hZ, hKN]; exact heap_alloc_new _ _
                              have hbx : Below Z1.heap.size Z1 Z2 := by rw [hZ]; exact (Below.refl _ _).alloc (Nat.le_refl _) _
                              have HKG : Hid (X8.heap.size ≤ KN) := by rw [hKN]; exact (unhide HSZ1).size
                              rw [← hZ, ← hKN]
                              have HSZ2 : Hid (Below X8.heap.size X8 Z2) := (unhide HSZ1).trans (hbx.mono (unhide HSZ1).size)
                              replace HT1 := hide ((unhide HT1).below hbx)
                              clear hZ hKN hbx
                              refine hK _ _ (fun _ => unhide HSZ2) ?_
                              clear hK K
                              simp only [Act.put, List.setIfInBounds_toArray, List.set_cons_zero, List.set_cons_succ]
                              refine wpAnyL_one (i := 3) (by kernel_rfl) rfl (by rfl) fun K hK => ?_
                              have HKB : Hid (KN < Z2.heap.size) := heap_lt (unhide HY)
                              refine wp_call_fn 22 _ _ (by rfl) #[obV AB.key xD kD lD, obV c.key xt1 nc mc] (by with_unfolding_all rfl) entMg (some 145) (by rfl) _ (kMerge ((unhide HLD).toSx.below (unhide HSZ2)) (unhide HT1) (unhide HM6)) ?_
                              rintro _ Z3 ⟨xm, km, lm, rfl, hsx, hbx⟩
                              have HMO := hide hsx
                              have HSZ3 : Hid (Below X8.heap.size X8 Z3) := (unhide HSZ2).trans (hbx.mono (unhide HSZ2).size)
                              replace HT1 := hide ((unhide HT1).below hbx)
                              replace HY := hide (box_below (unhide HY) hbx)
                              have HFAR : Hid (∀ g, xm.has XX.st.seen.length XX.st.sibs.length g → g ≠ KN) := fun g hg => by
                                have h1 := ((unhide HMO).own.lt hg).1
                                have h2 := unhide HKB
                                omega
                              clear hsx hbx
                              refine hK _ _ (fun _ => unhide HSZ3) ?_
                              clear hK K
                              simp only [Act.put, List.setIfInBounds_toArray, List.set_cons_zero, List.set_cons_succ]
                              refine wpAnyL_take 4 141 (.tuple #[obV XX.key xm km lm, .int .i64 j]) [] rfl rfl (by kernel_rfl) (by kernel_rfl) (by kernel_rfl) (by kernel_rfl) (by kernel_rfl) (fun _ _ _ h => h) (by rfl) (fun _ _ => by go_simp) (unhide HSZ3) ?_
                              simp only [Act.put, List.setIfInBounds_toArray, List.set_cons_zero, List.set_cons_succ]
                              refine wpAnyL_take 5 146 (obV XX.key xm km lm) [] rfl rfl (by kernel_rfl) (by kernel_rfl) (by kernel_rfl) (by kernel_rfl) (by kernel_rfl) (fun _ _ _ h => h) (by rfl) (fun _ _ => by go_simp) (unhide HSZ3) ?_
                              simp only [Act.put, List.setIfInBounds_toArray, List.set_cons_zero, List.set_cons_succ]
                              refine wpAnyL_take 6 147 (.int .i64 j) [] rfl rfl (by kernel_rfl) (by kernel_rfl) (by kernel_rfl) (by kernel_rfl) (by kernel_rfl) (fun _ _ _ h => h) (by rfl) (fun _ _ => by go_simp) (unhide HSZ3) ?_
                              simp only [Act.put, List.setIfInBounds_toArray, List.set_cons_zero, List.set_cons_succ]
                              refine wpAnyL_one (i := 8) (by kernel_rfl) rfl (by rfl) fun K hK => ?_
                              refine wp_store_ob (.tmp 17) (.tmp 146) (by rfl) (by rfl) KN XX.key xm km lm (by with_unfolding_all rfl) (by with_unfolding_all rfl) _ _ _ _ (unhide HY) ?_
                              obtain ⟨Z4, hZ⟩ : ∃ Z, Z = Z3.setRow KN #[.string XX.key, .slice xm.sa km xm.sc, .slice xm.ba lm xm.bc] := ⟨_, rfl⟩
                              have HYY : Hid (Z4.heap[KN]? = some (obRow XX.key xm km lm)) := by rw [hZ]; exact heapRow_same (unhide HY) _
                              have HSE : Hid (Below X8.heap.size X8 Z4) := by rw [hZ]; exact belowRow (unhide HSZ3) (unhide HKG) _
                              have HLN : Hid (Lo Z4 KN XX xm km lm) := ⟨⟨((unhide HMO).own.keep fun g hg => by rw [hZ]; exact heapRow_other _ _ _ _ (unhide HFAR g hg)).at (unhide HF6).2 (unhide HF6).1, (unhide HMO).ek, (unhide HMO).el⟩, unhide HYY⟩
                              rw [← hZ]
                              clear hZ
                              refine hK _ _ (fun _ => unhide HSE) ?_
                              clear hK K
                              refine wpAnyL_one (i := 9) (by kernel_rfl) rfl (by rfl) fun K hK => ?_
                              refine wp_val (.int .i64 j) (by go_simp) (some 18) (by rfl) ?_
                              refine hK _ _ (fun _ => unhide HSE) ?_
                              clear hK K
                              simp only [Act.put, List.setIfInBounds_toArray, List.set_cons_zero, List.set_cons_succ]
                              refine wpAnyL_done (by kernel_rfl) ?_ _
                              go_wp2_with fail
                              go_meet
                              exact ⟨KN, xm, km, lm, rfl, rfl, ⟨unhide HLN, unhide HSE⟩⟩
                          · refine wp_alloc_ob (by rfl) (some 17) (by rfl) ?_
                            obtain ⟨Z1, hZ⟩ : ∃ Z, Z = Z0.alloc (.cells #[.string ⟨#[]⟩, .slice none 0 0, .slice none 0 0] 33) := ⟨_, rfl⟩
                            obtain ⟨KN, hKN⟩ : ∃ K, K = Z0.heap.size := ⟨_, rfl⟩
                            have HY : Hid (Z1.heap[KN]? = some (obRow ⟨#[]⟩ Sv.none 0 0)) := by rw [hZ, hKN]; exact heap_alloc_new _ _
                            have hbx : Below Z0.heap.size Z0 Z1 := by rw [hZ]; exact (Below.refl _ _).alloc (Nat.le_refl _) _
                            have HKG : Hid (X8.heap.size ≤ KN) := by rw [hKN]; exact (unhide HSZ0).size
                            rw [← hZ, ← hKN]
                            have HSZ1 : Hid (Below X8.heap.size X8 Z1) := (unhide HSZ0).trans (hbx.mono (unhide HSZ0).size)
                            clear hZ hKN hbx
                            refine hK _ _ (fun _ => unhide HSZ1) ?_
                            clear hK K
                            simp only [Act.put, List.setIfInBounds_toArray, List.set_cons_zero, List.set_cons_succ]
                            refine wpAnyL_one (i := 2) (by kernel_rfl) rfl (by rfl) fun K hK => ?_
                            refine wp_call_fn 13 _ _ (by rfl) #[obV c.key vc nc mc] (by with_unfolding_all rfl) entLT (some 144) (by rfl) _ (asV2 (kTwin Z1 ((unhide HLC).toSx.below (unhide HSZ1)))) ?_
                            rintro _ Z2 ⟨xt1, rfl, hsx, hbx⟩
                            have HT1 := hide hsx
                            have HSZ2 : Hid (Below X8.heap.size X8 Z2) := (unhide HSZ1).trans (hbx.mono (unhide HSZ1).size)
                            replace HY := hide (box_below (unhide HY) hbx)
                            clear hsx hbx
                            refine hK _ _ (fun _ => unhide HSZ2) ?_
                            clear hK K
                            simp only [Act.put, List.setIfInBounds_toArray, List.set_cons_zero, List.set_cons_succ]
                            refine wpAnyL_one (i := 3) (by kernel_rfl) rfl (by rfl) fun K hK => ?_
                            have HKB : Hid (KN < Z2.heap.size) := heap_lt (unhide HY)
                            refine wp_call_fn 22 _ _ (by rfl) #[obV AB.key xD kD lD, obV c.key xt1 nc mc] (by with_unfolding_all rfl) entMg (some 145) (by rfl) _ (kMerge ((unhide HLD).toSx.below (unhide HSZ2)) (unhide HT1) (unhide HM6)) ?_
                            rintro _ Z3 ⟨xm, km, lm, rfl, hsx, hbx⟩
                            have HMO := hide hsx
                            have HSZ3 : Hid (Below X8.heap.size X8 Z3) := (unhide HSZ2).trans (hbx.mono (unhide HSZ2).size)
                            replace HT1 := hide ((unhide HT1).below hbx)
                            replace HY := hide (box_below (unhide HY) hbx)
                            have HFAR : Hid (∀ g, xm.has XX.st.seen.length XX.st.sibs.length g → g ≠ KN) := fun g hg => by
                              have h1 := ((unhide HMO).own.lt hg).1
                              have h2 := unhide HKB
                              omega
                            clear hsx hbx
                            refine hK _ _ (fun _ => unhide HSZ3) ?_
                            clear hK K
                            simp only [Act.put, List.setIfInBounds_toArray, List.set_cons_zero, List.set_cons_succ]
                            refine wpAnyL_take 4 141 (.tuple #[obV XX.key xm km lm, .int .i64 j]) [] rfl rfl (by kernel_rfl) (by kernel_rfl) (by kernel_rfl) (by kernel_rfl) (by kernel_rfl) (fun _ _ _ h => h) (by rfl) (fun _ _ => by go_simp) (unhide HSZ3) ?_
                            simp only [Act.put, List.setIfInBounds_toArray, List.set_cons_zero, List.set_cons_succ]
                            refine wpAnyL_take 5 146 (obV XX.key xm km lm) [] rfl rfl (by kernel_rfl) (by kernel_rfl) (by kernel_rfl) (by kernel_rfl) (by kernel_rfl) (fun _ _ _ h => h) (by rfl) (fun _ _ => by go_simp) (unhide HSZ3) ?_
                            simp only [Act.put, List.setIfInBounds_toArray, List.set_cons_zero, List.set_cons_succ]
                            refine wpAnyL_take 6 147 (.int .i64 j) [] rfl rfl (by kernel_rfl) (by kernel_rfl) (by kernel_rfl) (by kernel_rfl) (by kernel_rfl) (fun _ _ _ h => h) (by rfl) (fun _ _ => by go_simp) (unhide HSZ3) ?_
                            simp only [Act.put, List.setIfInBounds_toArray, List.set_cons_zero, List.set_cons_succ]
                            refine wpAnyL_one (i := 8) (by kernel_rfl) rfl (by rfl) fun K hK => ?_
                            refine wp_store_ob (.tmp 17) (.tmp 146) (by rfl) (by rfl) KN XX.key xm km lm (by with_unfolding_all rfl) (by with_unfolding_all rfl) _ _ _ _ (unhide HY) ?_
                            obtain ⟨Z4, hZ⟩ : ∃ Z, Z = Z3.setRow KN #[.string XX.key, .slice xm.sa km xm.sc, .slice xm.ba lm xm.bc] := ⟨_, rfl⟩
                            have HYY : Hid (Z4.heap[KN]? = some (obRow XX.key xm km lm)) := by rw [hZ]; exact heapRow_same (unhide HY) _
                            have HSE : Hid (Below X8.heap.size X8 Z4) := by rw [hZ]; exact belowRow (unhide HSZ3) (unhide HKG) _
                            have HLN : Hid (Lo Z4 KN XX xm km lm) := ⟨⟨((unhide HMO).own.keep fun g hg => by rw [hZ]; exact heapRow_other _ _ _ _ (unhide HFAR g hg)).at (unhide HF6).2 (unhide HF6).1, (unhide HMO).ek, (unhide HMO).el⟩, unhide HYY⟩
                            rw [← hZ]
                            clear hZ
                            refine hK _ _ (fun _ => unhide HSE) ?_
                            clear hK K
                            refine wpAnyL_one (i := 9) (by kernel_rfl) rfl (by rfl) fun K hK => ?_
                            refine wp_val (.int .i64 j) (by go_simp) (some 18) (by rfl) ?_
                            refine hK _ _ (fun _ => unhide HSE) ?_
                            clear hK K
                            simp only [Act.put, List.setIfInBounds_toArray, List.set_cons_zero, List.set_cons_succ]
                            refine wpAnyL_done (by kernel_rfl) ?_ _
                            go_wp2_with fail
                            go_meet
                            exact ⟨KN, xm, km, lm, rfl, rfl, ⟨unhide HLN, unhide HSE⟩⟩
                      case rest =>
                        obtain ⟨KP, xP, kP, lP, rfl, rfl, HC⟩ := hcut
                        obtain ⟨X9, hW⟩ : ∃ W, W = wc := ⟨_, rfl⟩
                        subst hW
                        have hb := (unhide HC).2
                        clear c0A c1A c2A c0B c1B c2B c0C c1C c2C c0D c1D c2D c0E c1E c2E c0F c1F c2F c0G c1G c2G c0H c1H c2H
                        replace HLA := hide ((unhide HLA).below hb)
                        replace HLB := hide ((unhide HLB).below hb)
                        replace HLC := hide ((unhide HLC).below hb)
                        replace HLD := hide ((unhide HLD).below hb)
                        replace HLE := hide ((unhide HLE).below hb)
                        replace HLF := hide ((unhide HLF).below hb)
                        replace HLG := hide ((unhide HLG).below hb)
                        replace HLH := hide ((unhide HLH).below hb)
                        have HLP := hide (unhide HC).1
                        replace HBU : Hid (Below N u X9) := (unhide HBU).trans (hb.mono (unhide HNW))
                        replace HNW : Hid (N ≤ X9.heap.size) := Nat.le_trans (unhide HNW) hb.size
                        clear hb HC
                        obtain ⟨c0A, c1A, c2A⟩ := (unhide HLA).cells
                        obtain ⟨c0B, c1B, c2B⟩ := (unhide HLB).cells
                        obtain ⟨c0C, c1C, c2C⟩ := (unhide HLC).cells
                        obtain ⟨c0D, c1D, c2D⟩ := (unhide HLD).cells
                        obtain ⟨c0E, c1E, c2E⟩ := (unhide HLE).cells
                        obtain ⟨c0F, c1F, c2F⟩ := (unhide HLF).cells
                        obtain ⟨c0G, c1G, c2G⟩ := (unhide HLG).cells
                        obtain ⟨c0H, c1H, c2H⟩ := (unhide HLH).cells
                        obtain ⟨c0P, c1P, c2P⟩ := (unhide HLP).cells
                        go_upto_region 17 with fail
                        go_cut [19, 20] (fun sA sB wx => ∃ K x k l, sA = .pointer (some ⟨K, 0, none⟩) ∧ sB = .int .i64 r ∧ Hid (Lo wx K YY x k l ∧ Below X9.heap.size X9 wx))
                        case first =>
                          as_aux_lemma =>
                            clear c0A c1A c2A c0B c1B c2B c0C c1C c2C c0D c1D c2D c0E c1E c2E c0F c1F c2F c0G c1G c2G c0H c1H c2H c0P c1P c2P
                            refine wp_region_last (fun V => Below X9.heap.size X9 V) 9 hmix (belowDrew (Below.refl _ _)) fun hS => ?_
                            have HSZ0 : Hid (Below X9.heap.size X9 X9.drew) := hS
                            generalize X9.drew = Z0 at hS HSZ0 ⊢
                            refine wpAnyL_take 0 149 (obV a.key va na ma) [] rfl rfl (by kernel_rfl) (by kernel_rfl) (by kernel_rfl) (by kernel_rfl) (by kernel_rfl) (fun _ _ _ h => h) (by rfl) (fun V hV => by obtain ⟨c0, c1, c2⟩ := ((unhide HLA).below hV).cells; simp only [obV]; go_simp) hS ?_
                            simp only [Act.put, List.setIfInBounds_toArray, List.set_cons_zero, List.set_cons_succ]
                            refine wpAnyL_take 2 151 (obV BC.key xH kH lH) [] rfl rfl (by kernel_rfl) (by kernel_rfl) (by kernel_rfl) (by kernel_rfl) (by kernel_rfl) (fun _ _ _ h => h) (by rfl) (fun V hV => by obtain ⟨c0, c1, c2⟩ := ((unhide HLH).below hV).cells; simp only [obV]; go_simp) hS ?_
                            simp only [Act.put, List.setIfInBounds_toArray, List.set_cons_zero, List.set_cons_succ]
                            refine wpAnyL_two (i := 1) (j := 7) (by kernel_rfl) rfl rfl (by rfl) (by rfl) (fun K hK => ?_) (fun K hK => ?_)
                            · refine wp_call_fn 13 _ _ (by rfl) #[obV a.key va na ma] (by with_unfolding_all rfl) entLT (some 150) (by rfl) _ (asV2 (kTwin Z0 ((unhide HLA).toSx.below (unhide HSZ0)))) ?_
                              rintro _ Z1 ⟨xt1, rfl, hsx, hbx⟩
                              have HT1 := hide hsx
                              have HSZ1 : Hid (Below X9.heap.size X9 Z1) := (unhide HSZ0).trans (hbx.mono (unhide HSZ0).size)
                              clear hsx hbx
                              refine hK _ _ (fun _ => unhide HSZ1) ?_
                              clear hK K
                              simp only [Act.put, List.setIfInBounds_toArray, List.set_cons_zero, List.set_cons_succ]
                              refine wpAnyL_two (i := 3) (j := 7) (by kernel_rfl) rfl rfl (by rfl) (by rfl) (fun K hK => ?_) (fun K hK => ?_)
                              · refine wp_call_fn 22 _ _ (by rfl) #[obV a.key xt1 na ma, obV BC.key xH kH lH] (by with_unfolding_all rfl) entMg (some 152) (by rfl) _ (kMerge (unhide HT1) ((unhide HLH).toSx.below (unhide HSZ1)) (unhide HM7)) ?_
                                rintro _ Z2 ⟨xm, km, lm, rfl, hsx, hbx⟩
                                have HMO := hide hsx
                                have HSZ2 : Hid (Below X9.heap.size X9 Z2) := (unhide HSZ1).trans (hbx.mono (unhide HSZ1).size)
                                replace HT1 := hide ((unhide HT1).below hbx)
                                clear hsx hbx
                                refine hK _ _ (fun _ => unhide HSZ2) ?_
                                clear hK K
                                simp only [Act.put, List.setIfInBounds_toArray, List.set_cons_zero, List.set_cons_succ]
                                refine wpAnyL_take 4 148 (.tuple #[obV YY.key xm km lm, .int .i64 r]) [] rfl rfl (by kernel_rfl) (by kernel_rfl) (by kernel_rfl) (by kernel_rfl) (by kernel_rfl) (fun _ _ _ h => h) (by rfl) (fun _ _ => by go_simp) (unhide HSZ2) ?_
                                simp only [Act.put, List.setIfInBounds_toArray, List.set_cons_zero, List.set_cons_succ]
                                refine wpAnyL_take 5 153 (obV YY.key xm km lm) [] rfl rfl (by kernel_rfl) (by kernel_rfl) (by kernel_rfl) (by kernel_rfl) (by kernel_rfl) (fun _ _ _ h => h) (by rfl) (fun _ _ => by go_simp) (unhide HSZ2) ?_
                                simp only [Act.put, List.setIfInBounds_toArray, List.set_cons_zero, List.set_cons_succ]
                                refine wpAnyL_take 6 154 (.int .i64 r) [] rfl rfl (by kernel_rfl) (by kernel_rfl) (by kernel_rfl) (by kernel_rfl) (by kernel_rfl) (fun _ _ _ h => h) (by rfl) (fun _ _ => by go_simp) (unhide HSZ2) ?_
                                simp only [Act.put, List.setIfInBounds_toArray, List.set_cons_zero, List.set_cons_succ]
                                refine wpAnyL_one (i := 7) (by kernel_rfl) rfl (by rfl) fun K hK => ?_
                                refine wp_alloc_ob (by rfl) (some 19) (by rfl) ?_
                                obtain ⟨Z3, hZ⟩ : ∃ Z, Z = Z2.alloc (.cells #[.string ⟨#[]⟩, .slice none 0 0, .slice none 0 0] 33) := ⟨_, rfl⟩
                                obtain ⟨KN, hKN⟩ : ∃ K, K = Z2.heap.size := ⟨_, rfl⟩
                                have HY : Hid (Z3.heap[KN]? = some (obRow ⟨#[]⟩ Sv.none 0 0)) := by rw [hZ, hKN]; exact heap_alloc_new _ _
                                have hbx : Below Z2.heap.size Z2 Z3 := by rw [hZ]; exact (Below.refl _ _).alloc (Nat.le_refl _) _
                                have HKG : Hid (X9.heap.size ≤ KN) := by rw [hKN]; exact (unhide HSZ2).size
                                rw [← hZ, ← hKN]
                                have HSZ3 : Hid (Below X9.heap.size X9 Z3) := (unhide HSZ2).trans (hbx.mono (unhide HSZ2).size)
                                have HFAR : Hid (∀ g, xm.has YY.st.seen.length YY.st.sibs.length g → g ≠ KN) := fun g hg => by
                                  have h1 := ((unhide HMO).own.lt hg).2
                                  omega
                                replace HT1 := hide ((unhide HT1).below hbx)
                                replace HMO := hide ((unhide HMO).below hbx)
                                clear hZ hKN hbx
                                refine hK _ _ (fun _ => unhide HSZ3) ?_
                                clear hK K
                                simp only [Act.put, List.setIfInBounds_toArray, List.set_cons_zero, List.set_cons_succ]
                                refine wpAnyL_one (i := 8) (by kernel_rfl) rfl (by rfl) fun K hK => ?_
                                refine wp_store_ob (.tmp 19) (.tmp 153) (by rfl) (by rfl) KN YY.key xm km lm (by with_unfolding_all rfl) (by with_unfolding_all rfl) _ _ _ _ (unhide HY) ?_
                                obtain ⟨Z4, hZ⟩ : ∃ Z, Z = Z3.setRow KN #[.string YY.key, .slice xm.sa km xm.sc, .slice xm.ba lm xm.bc] := ⟨_, rfl⟩
                                have HYY : Hid (Z4.heap[KN]? = some (obRow YY.key xm km lm)) := by rw [hZ]; exact heapRow_same (unhide HY) _
                                have HSE : Hid (Below X9.heap.size X9 Z4) := by rw [hZ]; exact belowRow (unhide HSZ3) (unhide HKG) _
                                have HLN : Hid (Lo Z4 KN YY xm km lm) := ⟨⟨((unhide HMO).own.keep fun g hg => by rw [hZ]; exact heapRow_other _ _ _ _ (unhide HFAR g hg)).at (unhide HF7).2 (unhide HF7).1, (unhide HMO).ek, (unhide HMO).el⟩, unhide HYY⟩
                                rw [← hZ]
                                clear hZ
                                refine hK _ _ (fun _ => unhide HSE) ?_
                                clear hK K
                                refine wpAnyL_one (i := 9) (by kernel_rfl) rfl (by rfl) fun K hK => ?_
                                refine wp_val (.int .i64 r) (by go_simp) (some 20) (by rfl) ?_
                                refine hK _ _ (fun _ => unhide HSE) ?_
                                clear hK K
                                simp only [Act.put, List.setIfInBounds_toArray, List.set_cons_zero, List.set_cons_succ]
                                refine wpAnyL_done (by kernel_rfl) ?_ _
                                go_wp2_with fail
                                go_meet
                                exact ⟨KN, xm, km, lm, rfl, rfl, ⟨unhide HLN, unhide HSE⟩⟩
                              · refine wp_alloc_ob (by rfl) (some 19) (by rfl) ?_
                                obtain ⟨Z2, hZ⟩ : ∃ Z, Z = Z1.alloc (.cells #[.string ⟨#[]⟩, .slice none 0 0, .slice none 0 0] 33) := ⟨_, rfl⟩
                                obtain ⟨KN, hKN⟩ : ∃ K, K = Z1.heap.size := ⟨_, rfl⟩
                                have HY : Hid (Z2.heap[KN]? = some (obRow ⟨#[]⟩ Sv.none 0 0)) := by rw [hZ, hKN]; exact heap_alloc_new _ _
                                have hbx : Below Z1.heap.size Z1 Z2 := by rw [hZ]; exact (Below.refl _ _).alloc (Nat.le_refl _) _
                                have HKG : Hid (X9.heap.size ≤ KN) := by rw [hKN]; exact (unhide HSZ1).size
                                rw [← hZ, ← hKN]
                                have HSZ2 : Hid (Below X9.heap.size X9 Z2) := (unhide HSZ1).trans (hbx.mono (unhide HSZ1).size)
                                replace HT1 := hide ((unhide HT1).below hbx)
                                clear hZ hKN hbx
                                refine hK _ _ (fun _ => unhide HSZ2) ?_
                                clear hK K
                                simp only [Act.put, List.setIfInBounds_toArray, List.set_cons_zero, List.set_cons_succ]
                                refine wpAnyL_one (i := 3) (by kernel_rfl) rfl (by rfl) fun K hK => ?_
                                have HKB : Hid (KN < Z2.heap.size) := heap_lt (unhide HY)
                                refine wp_call_fn 22 _ _ (by rfl) #[obV a.key xt1 na ma, obV BC.key xH kH lH] (by with_unfolding_all rfl) entMg (some 152) (by rfl) _ (kMerge (unhide HT1) ((unhide HLH).toSx.below (unhide HSZ2)) (unhide HM7)) ?_
                                rintro _ Z3 ⟨xm, km, lm, rfl, hsx, hbx⟩
                                have HMO := hide hsx
                                have HSZ3 : Hid (Below X9.heap.size X9 Z3) := (unhide HSZ2).trans (hbx.mono (unhide HSZ2).size)
                                replace HT1 := hide ((unhide HT1).below hbx)
                                replace HY := hide (box_below (unhide HY) hbx)
                                have HFAR : Hid (∀ g, xm.has YY.st.seen.length YY.st.sibs.length g → g ≠ KN) := fun g hg => by
                                  have h1 := ((unhide HMO).own.lt hg).1
                                  have h2 := unhide HKB
                                  omega
                                clear hsx hbx
                                refine hK _ _ (fun _ => unhide HSZ3) ?_
                                clear hK K
                                simp only [Act.put, List.setIfInBounds_toArray, List.set_cons_zero, List.set_cons_succ]
                                refine wpAnyL_take 4 148 (.tuple #[obV YY.key xm km lm, .int .i64 r]) [] rfl rfl (by kernel_rfl) (by kernel_rfl) (by kernel_rfl) (by kernel_rfl) (by kernel_rfl) (fun _ _ _ h => h) (by rfl) (fun _ _ => by go_simp) (unhide HSZ3) ?_
                                simp only [Act.put, List.setIfInBounds_toArray, List.set_cons_zero, List.set_cons_succ]
                                refine wpAnyL_take 5 153 (obV YY.key xm km lm) [] rfl rfl (by kernel_rfl) (by kernel_rfl) (by kernel_rfl) (by kernel_rfl) (by kernel_rfl) (fun _ _ _ h => h) (by rfl) (fun _ _ => by go_simp) (unhide HSZ3) ?_
                                simp only [Act.put, List.setIfInBounds_toArray, List.set_cons_zero, List.set_cons_succ]
                                refine wpAnyL_take 6 154 (.int .i64 r) [] rfl rfl (by kernel_rfl) (by kernel_rfl) (by kernel_rfl) (by kernel_rfl) (by kernel_rfl) (fun _ _ _ h => h) (by rfl) (fun _ _ => by go_simp) (unhide HSZ3) ?_
                                simp only [Act.put, List.setIfInBounds_toArray, List.set_cons_zero, List.set_cons_succ]
                                refine wpAnyL_one (i := 8) (by kernel_rfl) rfl (by rfl) fun K hK => ?_
                                refine wp_store_ob (.tmp 19) (.tmp 153) (by rfl) (by rfl) KN YY.key xm km lm (by with_unfolding_all rfl) (by with_unfolding_all rfl) _ _ _ _ (unhide HY) ?_
                                obtain ⟨Z4, hZ⟩ : ∃ Z, Z = Z3.setRow KN #[.string YY.key, .slice xm.sa km xm.sc, .slice xm.ba lm xm.bc] := ⟨_, rfl⟩
                                have HYY : Hid (Z4.heap[KN]? = some (obRow YY.key xm km lm)) := by rw [hZ]; exact heapRow_same (unhide HY) _
                                have HSE : Hid (Below X9.heap.size X9 Z4) := by rw [hZ]; exact belowRow (unhide HSZ3) (unhide HKG) _
                                have HLN : Hid (Lo Z4 KN YY xm km lm) := ⟨⟨((unhide HMO).own.keep fun g hg => by rw [hZ]; exact heapRow_other _ _ _ _ (unhide HFAR g hg)).at (unhide HF7).2 (unhide HF7).1, (unhide HMO).ek, (unhide HMO).el⟩, unhide HYY⟩
                                rw [← hZ]
                                clear hZ
                                refine hK _ _ (fun _ => unhide HSE) ?_
                                clear hK K
                                refine wpAnyL_one (i := 9) (by kernel_rfl) rfl (by rfl) fun K hK => ?_
                                refine wp_val (.int .i64 r) (by go_simp) (some 20) (by rfl) ?_
                                refine hK _ _ (fun _ => unhide HSE) ?_
                                clear hK K
                                simp only [Act.put, List.setIfInBounds_toArray, List.set_cons_zero, List.set_cons_succ]
                                refine wpAnyL_done (by kernel_rfl) ?_ _
                                go_wp2_with fail
                                go_meet
                                exact ⟨KN, xm, km, lm, rfl, rfl, ⟨unhide HLN, unhide HSE⟩⟩
                            · refine wp_alloc_ob (by rfl) (some 19) (by rfl) ?_
                              obtain ⟨Z1, hZ⟩ : ∃ Z, Z = Z0.alloc (.cells #[.string ⟨#[]⟩, .slice none 0 0, .slice none 0 0] 33) := ⟨_, rfl⟩
                              obtain ⟨KN, hKN⟩ : ∃ K, K = Z0.heap.size := ⟨_, rfl⟩
                              have HY : Hid (Z1.heap[KN]? = some (obRow ⟨#[]⟩ Sv.none 0 0)) := by rw [hZ, hKN]; exact heap_alloc_new _ _
                              have hbx : Below Z0.heap.size Z0 Z1 := by rw [hZ]; exact (Below.refl _ _).alloc (Nat.le_refl _) _
                              have HKG : Hid (X9.heap.size ≤ KN) := by rw [hKN]; exact (unhide HSZ0).size
                              rw [← hZ, ← hKN]
                              have HSZ1 : Hid (Below X9.heap.size X9 Z1) := (unhide HSZ0).trans (hbx.mono (unhide HSZ0).size)
                              clear hZ hKN hbx
                              refine hK _ _ (fun _ => unhide HSZ1) ?_
                              clear hK K
                              simp only [Act.put, List.setIfInBounds_toArray, List.set_cons_zero, List.set_cons_succ]
                              refine wpAnyL_one (i := 1) (by kernel_rfl) rfl (by rfl) fun K hK => ?_
                              refine wp_call_fn 13 _ _ (by rfl) #[obV a.key va na ma] (by with_unfolding_all rfl) entLT (some 150) (by rfl) _ (asV2 (kTwin Z1 ((unhide HLA).toSx.below (unhide HSZ1)))) ?_
                              rintro _ Z2 ⟨xt1, rfl, hsx, hbx⟩
                              have HT1 := hide hsx
                              have HSZ2 : Hid (Below X9.heap.size X9 Z2) := (unhide HSZ1).trans (hbx.mono (unhide HSZ1).size)
                              replace HY := hide (box_below (unhide HY) hbx)
                              clear hsx hbx
                              refine hK _ _ (fun _ => unhide HSZ2) ?_
                              clear hK K
                              simp only [Act.put, List.setIfInBounds_toArray, List.set_cons_zero, List.set_cons_succ]
                              refine wpAnyL_one (i := 3) (by kernel_rfl) rfl (by rfl) fun K hK => ?_
                              have HKB : Hid (KN < Z2.heap.size) := heap_lt (unhide HY)
                              refine wp_call_fn 22 _ _ (by rfl) #[obV a.key xt1 na ma, obV BC.key xH kH lH] (by with_unfolding_all rfl) entMg (some 152) (by rfl) _ (kMerge (unhide HT1) ((unhide HLH).toSx.below (unhide HSZ2)) (unhide HM7)) ?_
                              rintro _ Z3 ⟨xm, km, lm, rfl, hsx, hbx⟩
                              have HMO := hide hsx
                              have HSZ3 : Hid (Below X9.heap.size X9 Z3) := (unhide HSZ2).trans (hbx.mono (unhide HSZ2).size)
                              replace HT1 := hide ((unhide HT1).below hbx)
                              replace HY := hide (box_below (unhide HY) hbx)
                              have HFAR : Hid (∀ g, xm.has YY.st.seen.length YY.st.sibs.length g → g ≠ KN) := fun g hg => by
                                have h1 := ((unhide HMO).own.lt hg).1
                                have h2 := unhide HKB
                                omega
                              clear hsx hbx
                              refine hK _ _ (fun _ => unhide HSZ3) ?_
                              clear hK K
                              simp only [Act.put, List.setIfInBounds_toArray, List.set_cons_zero, List.set_cons_succ]
                              refine wpAnyL_take 4 148 (.tuple #[obV YY.key xm km lm, .int .i64 r]) [] rfl rfl (by kernel_rfl) (by kernel_rfl) (by kernel_rfl) (by kernel_rfl) (by kernel_rfl) (fun _ _ _ h => h) (by rfl) (fun _ _ => by go_simp) (unhide HSZ3) ?_
                              simp only [Act.put, List.setIfInBounds_toArray, List.set_cons_zero, List.set_cons_succ]
                              refine wpAnyL_take 5 153 (obV YY.key xm km lm) [] rfl rfl (by kernel_rfl) (by kernel_rfl) (by kernel_rfl) (by kernel_rfl) (by kernel_rfl) (fun _ _ _ h => h) (by rfl) (fun _ _ => by go_simp) (unhide HSZ3) ?_
                              simp only [Act.put, List.setIfInBounds_toArray, List.set_cons_zero, List.set_cons_succ]
                              refine wpAnyL_take 6 154 (.int .i64 r) [] rfl rfl (by kernel_rfl) (by kernel_rfl) (by kernel_rfl) (by kernel_rfl) (by kernel_rfl) (fun _ _ _ h => h) (by rfl) (fun _ _ => by go_simp) (unhide HSZ3) ?_
                              simp only [Act.put, List.setIfInBounds_toArray, List.set_cons_zero, List.set_cons_succ]
                              refine wpAnyL_one (i := 8) (by kernel_rfl) rfl (by rfl) fun K hK => ?_
                              refine wp_store_ob (.tmp 19) (.tmp 153) (by rfl) (by rfl) KN YY.key xm km lm (by with_unfolding_all rfl) (by with_unfolding_all rfl) _ _ _ _ (unhide HY) ?_
                              obtain ⟨Z4, hZ⟩ : ∃ Z, Z = Z3.setRow KN #[.string YY.key, .slice xm.sa km xm.sc, .slice xm.ba lm xm.bc] := ⟨_, rfl⟩
                              have HYY : Hid (Z4.heap[KN]? = some (obRow YY.key xm km lm)) := by rw [hZ]; exact heapRow_same (unhide HY) _
                              have HSE : Hid (Below X9.heap.size X9 Z4) := by rw [hZ]; exact belowRow (unhide HSZ3) (unhide HKG) _
                              have HLN : Hid (Lo Z4 KN YY xm km lm) := ⟨⟨((unhide HMO).own.keep fun g hg => by rw [hZ]; exact heapRow_other _ _ _ _ (unhide HFAR g hg)).at (unhide HF7).2 (unhide HF7).1, (unhide HMO).ek, (unhide HMO).el⟩, unhide HYY⟩
                              rw [← hZ]
                              clear hZ
                              refine hK _ _ (fun _ => unhide HSE) ?_
                              clear hK K
                              refine wpAnyL_one (i := 9) (by kernel_rfl) rfl (by rfl) fun K hK => ?_
                              refine wp_val (.int .i64 r) (by go_simp) (some 20) (by rfl) ?_
                              refine hK _ _ (fun _ => unhide HSE) ?_
                              clear hK K
                              simp only [Act.put, List.setIfInBounds_toArray, List.set_cons_zero, List.set_cons_succ]
                              refine wpAnyL_done (by kernel_rfl) ?_ _
                              go_wp2_with fail
                              go_meet
                              exact ⟨KN, xm, km, lm, rfl, rfl, ⟨unhide HLN, unhide HSE⟩⟩
                        case rest =>
                          obtain ⟨KQ, xQ, kQ, lQ, rfl, rfl, HC⟩ := hcut
                          obtain ⟨X0, hW⟩ : ∃ W, W = wc := ⟨_, rfl⟩
                          subst hW
                          have hb := (unhide HC).2
                          clear c0A c1A c2A c0B c1B c2B c0C c1C c2C c0D c1D c2D c0E c1E c2E c0F c1F c2F c0G c1G c2G c0H c1H c2H c0P c1P c2P
                          replace HLA := hide ((unhide HLA).below hb)
                          replace HLB := hide ((unhide HLB).below hb)
                          replace HLC := hide ((unhide HLC).below hb)
                          replace HLD := hide ((unhide HLD).below hb)
                          replace HLE := hide ((unhide HLE).below hb)
                          replace HLF := hide ((unhide HLF).below hb)
                          replace HLG := hide ((unhide HLG).below hb)
                          replace HLH := hide ((unhide HLH).below hb)
                          replace HLP := hide ((unhide HLP).below hb)
                          have HLQ := hide (unhide HC).1
                          replace HBU : Hid (Below N u X0) := (unhide HBU).trans (hb.mono (unhide HNW))
                          replace HNW : Hid (N ≤ X0.heap.size) := Nat.le_trans (unhide HNW) hb.size
                          clear hb HC
                          obtain ⟨c0A, c1A, c2A⟩ := (unhide HLA).cells
                          obtain ⟨c0B, c1B, c2B⟩ := (unhide HLB).cells
                          obtain ⟨c0C, c1C, c2C⟩ := (unhide HLC).cells
                          obtain ⟨c0D, c1D, c2D⟩ := (unhide HLD).cells
                          obtain ⟨c0E, c1E, c2E⟩ := (unhide HLE).cells
                          obtain ⟨c0F, c1F, c2F⟩ := (unhide HLF).cells
                          obtain ⟨c0G, c1G, c2G⟩ := (unhide HLG).cells
                          obtain ⟨c0H, c1H, c2H⟩ := (unhide HLH).cells
                          obtain ⟨c0P, c1P, c2P⟩ := (unhide HLP).cells
                          obtain ⟨c0Q, c1Q, c2Q⟩ := (unhide HLQ).cells
                          go_upto_region 18 with fail
                          by_cases hj : j = 0
                          · by_cases hr : r = 0
                            · subst hj hr
                              have HQ1 := hide (unhide HASS (by first | exact rfl | trivial) (by first | exact rfl | trivial) (by first | exact rfl | trivial) (by first | exact rfl | trivial))
                              go_wp2_with (first
                                | (go_at_call 17; refine (klSame (a := XX) (b := YY) (unhide HLP).toSx (unhide HLQ).toSx true (sameO_iff.2 (unhide HQ1))).mono ?_; rintro q V1 ⟨rfl, hb⟩; clear c0A c1A c2A c0B c1B c2B c0C c1C c2C c0D c1D c2D c0E c1E c2E c0F c1F c2F c0G c1G c2G c0H c1H c2H c0P c1P c2P c0Q c1Q c2Q; have HV1 : Hid (Below X0.heap.size X0 V1) := hb; clear hb; obtain ⟨c0A, c1A, c2A⟩ := ((unhide HLA).below (unhide HV1)).cells; obtain ⟨c0B, c1B, c2B⟩ := ((unhide HLB).below (unhide HV1)).cells; obtain ⟨c0C, c1C, c2C⟩ := ((unhide HLC).below (unhide HV1)).cells; obtain ⟨c0D, c1D, c2D⟩ := ((unhide HLD).below (unhide HV1)).cells; obtain ⟨c0E, c1E, c2E⟩ := ((unhide HLE).below (unhide HV1)).cells; obtain ⟨c0F, c1F, c2F⟩ := ((unhide HLF).below (unhide HV1)).cells; obtain ⟨c0G, c1G, c2G⟩ := ((unhide HLG).below (unhide HV1)).cells; obtain ⟨c0H, c1H, c2H⟩ := ((unhide HLH).below (unhide HV1)).cells; obtain ⟨c0P, c1P, c2P⟩ := ((unhide HLP).below (unhide HV1)).cells; obtain ⟨c0Q, c1Q, c2Q⟩ := ((unhide HLQ).below (unhide HV1)).cells)
                                | fail)
                              go_ret
                              exact ⟨rfl, (unhide HBU).trans ((unhide HV1).mono (unhide HNW))⟩
                            · have hr' : (r != 0) = true := by simpa using hr
                              subst hj
                              clear hr
                              go_wp2
                              go_ret
                              exact ⟨rfl, unhide HBU⟩
                          · have hj' : (j != 0) = true := by simpa using hj
                            clear hj
                            go_wp2
                            go_ret
                            exact ⟨rfl, unhide HBU⟩
                    · have hi' : (i != 0) = true := by simpa using hi
                      subst he
                      clear hi
                      go_wp2
                      go_ret
                      exact ⟨rfl, unhide HBU⟩
                  · have he' : (e != 0) = true := by simpa using he
                    clear he
                    go_wp2
                    go_ret
                    exact ⟨rfl, unhide HBU⟩
end Go.Proofs.Ytkcbljmjhlnjpaa
