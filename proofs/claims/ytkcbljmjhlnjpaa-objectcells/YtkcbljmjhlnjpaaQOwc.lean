/- Objects, the document's side: Unpack (written by mkowc.py). -/
import Derived.Test.YtkcbljmjhlnjpaaQOwb
namespace Go.Proofs.Ytkcbljmjhlnjpaa
open Go.RowKit Go.Lib
set_option maxRecDepth 100000 in
set_option maxHeartbeats 4000000 in
theorem qUnpack (k z : ByteArray) (hz : z.size ≤ 140737488355328) (u : World) (J : Ot) (r : Int) (hJ : unpV k z = (J, r)) : Calls Try.prog 18 #[.agg #[.string k, .string z]] u fun e u' => ∃ x a b, e = .returned (.tuple #[obV J.key x a b, .int .i64 r]) ∧ a = J.st.seen.length ∧ b = J.st.sibs.length ∧ OwnT u' u.heap.size J.st x ∧ Below u.heap.size u u' := by
  have hmix : Try.prog.follows .mixedOrders = true := by kernel_rfl
  obtain ⟨N, hN⟩ : ∃ N, N = u.heap.size := ⟨_, rfl⟩
  have HN := hide hN
  have HU : Hid (∀ W : World, Below N u W → Below u.heap.size u W) := fun W hW => by rw [← unhide HN]; exact hW
  rw [← hN]
  clear hN
  by_cases h1 : 2 ≤ k.size
  · have hlt : ¬ (k.size : Int) < 2 := by omega
    have hle : (2 : Int) ≤ (k.size : Int) := by omega
    rcases decT_cases z with ⟨T, hT, hTo, hTf, hTz⟩ | hT
    · have HD := hide (fun W => rDecT z W hz T 0 hT)
      have HTO := hide hTo
      have HTF := hide hTf
      have hu : unpO k z = ⟨k.extract 2 k.size, T⟩ := by unfold unpO; rw [hT]
      obtain ⟨ky, hky⟩ : ∃ ky, k.extract 2 k.size = ky := ⟨_, rfl⟩
      have HKY := hide hky
      rw [hky] at hu
      obtain ⟨⟨pk, pz, pr⟩, hpk⟩ : ∃ p, p = packV ⟨ky, T⟩ := ⟨_, rfl⟩
      have HPK := hide hpk.symm
      by_cases hg : (pk, pz, pr) = (k, z, 0)
      · have hJ2 : unpV k z = (⟨ky, T⟩, 0) := by unfold unpV; rw [if_pos ⟨h1, by rw [hT], by rw [hu, ← hpk, hg]⟩, hu]
        rw [hJ2] at hJ
        cases hJ
        cases hg
        have hne : ∀ W : World, (binOp .neq 40 (.agg #[.string k, .string z]) (.agg #[.string k, .string z])).run Try.prog W = .ok (.bool false) W := fun W => by rw [neqCl]; simp
        clear hT hTo hTf hTz hu hpk hky hJ2 h1 hz
        go_enter Try.func18, Try.ntmps18
        go_upto_region 4 with (first
          | ((with_reducible refine wpList_box_ce (by rfl) (.tmp 0) (by rfl) (some 1) (by rfl) N (unhide HN) k z (by with_unfolding_all rfl) ?_); intro W1 HX1 HB1 HS1; simp only [Act.put, List.setIfInBounds_toArray, List.set_cons_zero, List.set_cons_succ])
          | ((with_reducible refine wpList_alloc_ob (by rfl) (by rfl) (some 2) (by rfl) (N + 1) (unhide HS1).symm ?_); intro W2 HX2 HB2 HS2; simp only [Act.put, List.setIfInBounds_toArray, List.set_cons_zero, List.set_cons_succ]; replace HX1 : Hid (W2.heap[N]? = some (ceRow k z)) := ((unhide HB2).block N (Nat.lt_succ_self _)).trans (unhide HX1); have HBU : Hid (Below N u W2) := (unhide HB1).trans ((unhide HB2).mono (Nat.le_succ _)); clear HB1 HB2 HS1; obtain ⟨c0, c1⟩ := ce_cells (unhide HX1))
          | (go_at_call 43; refine (unhide HD W2).mono ?_; rintro e W3 ⟨x, a, b, rfl, h1, h2, h3, h4⟩; clear c0 c1; have HE1 := hide h1; have HE2 := hide h2; have HO3 := hide h3; have HL3 := hide h4; replace HX1 := hide (box_below (unhide HX1) h4); replace HX2 := hide (box_below (unhide HX2) h4); replace HBU : Hid (Below N u W3) := (unhide HBU).trans (h4.mono (by rw [unhide HS2]; omega)); have HS3 : Hid (N + 1 + 1 ≤ W2.heap.size ∧ N + 1 + 1 ≤ W3.heap.size) := (by have := h4.size; rw [unhide HS2] at this ⊢; exact ⟨Nat.le_refl _, this⟩); clear h1 h2 h3 h4; obtain ⟨K1, hK1⟩ : ∃ K1, K1 = W3.heap.size := ⟨_, rfl⟩; have HK1 := hide hK1; clear hK1)
          | ((with_reducible refine wpList_alloc_state (by rfl) (by rfl) (some 4) (by rfl) K1 (unhide HK1) ?_); intro W4 HX4 HB4 HS4; simp only [Act.put, List.setIfInBounds_toArray, List.set_cons_zero, List.set_cons_succ])
          | ((with_reducible refine wpList_store_state (by rfl) (.tmp 4) (.tmp 17) (by rfl) K1 x a b (by with_unfolding_all rfl) (by with_unfolding_all rfl) Sv.none 0 0 (unhide HX4) ?_); intro W5 HX5 HE5; simp only [Act.put]; have hb5 : Below W3.heap.size W3 W5 := (by rw [unhide HE5, ← unhide HK1]; exact belowRow (unhide HB4) (Nat.le_refl _) _); replace HX1 := hide (box_below (unhide HX1) hb5); replace HX2 := hide (box_below (unhide HX2) hb5); replace HO3 := hide ((unhide HO3).below hb5); replace HBU : Hid (Below N u W5) := (unhide HBU).trans (hb5.mono (by have := (unhide HS3).2; omega)); have HS5 : Hid (K1 + 1 = W5.heap.size) := (by rw [unhide HE5, size_setRow]; exact (unhide HS4).symm); clear hb5 HX4 HB4 HS4 HE5)
          | fail)
        go_wp2_with fail
        refine wp_region_last (fun V => Below W5.heap.size W5 V) 6 hmix (belowDrew (Below.refl _ _)) fun hS => ?_
        generalize W5.drew = Z0 at hS ⊢
        refine wpAnyL_take 0 19 (.pointer (some ⟨N, 0, none⟩)) [] rfl rfl (by kernel_rfl) (by kernel_rfl) (by kernel_rfl) (by kernel_rfl) (by kernel_rfl) (fun _ _ _ h => h) (by rfl) (fun _ _ => by go_simp) hS ?_
        simp only [Act.put, List.setIfInBounds_toArray, List.set_cons_zero, List.set_cons_succ]
        refine wpAnyL_take 1 20 (.string k) [] rfl rfl (by kernel_rfl) (by kernel_rfl) (by kernel_rfl) (by kernel_rfl) (by kernel_rfl) (fun _ _ _ h => h) (by rfl) (fun V hV => by obtain ⟨c0, c1⟩ := ce_cells (box_below (unhide HX1) hV); go_simp) hS ?_
        simp only [Act.put, List.setIfInBounds_toArray, List.set_cons_zero, List.set_cons_succ]
        refine wpAnyL_take 2 21 (.string ky) [] rfl rfl (by kernel_rfl) (by kernel_rfl) (by kernel_rfl) (by kernel_rfl) (by kernel_rfl) (fun _ _ _ h => h) (by rfl) (fun _ _ => by rw [← unhide HKY]; go_simp) hS ?_
        simp only [Act.put, List.setIfInBounds_toArray, List.set_cons_zero, List.set_cons_succ]
        refine wpAnyL_take 3 22 (x.v a b) [] rfl rfl (by kernel_rfl) (by kernel_rfl) (by kernel_rfl) (by kernel_rfl) (by kernel_rfl) (fun _ _ _ h => h) (by rfl) (fun V hV => by obtain ⟨c0, c1⟩ := st_cells (box_below (unhide HX5) hV); simp only [Sv.v]; go_simp) hS ?_
        simp only [Act.put, List.setIfInBounds_toArray, List.set_cons_zero, List.set_cons_succ]
        refine wpAnyL_take 4 23 (obV ky x a b) [] rfl rfl (by kernel_rfl) (by kernel_rfl) (by kernel_rfl) (by kernel_rfl) (by kernel_rfl) (fun _ _ _ h => h) (by rfl) (fun _ _ => by simp only [obV, Sv.v]; go_simp) hS ?_
        simp only [Act.put, List.setIfInBounds_toArray, List.set_cons_zero, List.set_cons_succ]
        refine wpAnyL_one (i := 5) (by kernel_rfl) rfl (by rfl) fun K hK => ?_
        refine wp_alloc_ob (by rfl) (some 6) (by rfl) ?_
        obtain ⟨Z1, hZ1⟩ : ∃ Z, Z = Z0.alloc (.cells #[.string ⟨#[]⟩, .slice none 0 0, .slice none 0 0] 33) := ⟨_, rfl⟩
        obtain ⟨K2, hK2⟩ : ∃ K, K = Z0.heap.size := ⟨_, rfl⟩
        have HR1 : Hid (Z1.heap[K2]? = some (obRow ⟨#[]⟩ Sv.none 0 0)) := by rw [hZ1, hK2]; exact heap_alloc_new _ _
        have HL1 : Hid (Below Z0.heap.size Z0 Z1) := by rw [hZ1]; exact (Below.refl _ _).alloc (Nat.le_refl _) _
        have HQ1 : Hid (Z1.heap.size = K2 + 1) := by rw [hZ1, hK2, World.size_alloc]; exact rfl
        have HK2 := hide hK2
        rw [← hZ1, ← hK2]
        clear hZ1 hK2
        have HS1 : Hid (Below W5.heap.size W5 Z1) := hS.trans ((unhide HL1).mono hS.size)
        refine hK _ _ (fun _ => unhide HS1) ?_
        clear hK K
        simp only [Act.put, List.setIfInBounds_toArray, List.set_cons_zero, List.set_cons_succ]
        refine wpAnyL_one (i := 6) (by kernel_rfl) rfl (by rfl) fun K hK => ?_
        refine wp_store_ob (.tmp 6) (.tmp 23) (by rfl) (by rfl) K2 ky x a b (by with_unfolding_all rfl) (by with_unfolding_all rfl) _ _ _ _ (unhide HR1) ?_
        obtain ⟨Z2, hZ2⟩ : ∃ Z, Z = Z1.setRow K2 #[.string ky, .slice x.sa a x.sc, .slice x.ba b x.bc] := ⟨_, rfl⟩
        have HR2 : Hid (Z2.heap[K2]? = some (obRow ky x a b)) := by rw [hZ2]; exact heapRow_same (unhide HR1) _
        have hb6 : Below W5.heap.size W5 Z2 := by rw [hZ2]; exact belowRow (unhide HS1) (by rw [unhide HK2]; exact hS.size) _
        have HQ2 : Hid (Z2.heap.size = K2 + 1) := by rw [hZ2, size_setRow]; exact unhide HQ1
        rw [← hZ2]
        clear hZ2
        refine hK _ _ (fun h => absurd rfl h) ?_
        clear hK K
        replace HX1 := hide (box_below (unhide HX1) hb6)
        replace HX2 := hide (box_below (unhide HX2) hb6)
        replace HO3 := hide ((unhide HO3).below hb6)
        replace HBU : Hid (Below N u Z2) := (unhide HBU).trans (hb6.mono (by have h1 := (unhide HS3).2; have h2 := unhide HS5; have h3 := unhide HK1; omega))
        have HLX : Hid (Lo Z2 K2 ⟨ky, T⟩ x a b) := ⟨⟨(unhide HO3).at (unhide HTF) (unhide HTO), unhide HE1, unhide HE2⟩, unhide HR2⟩
        have HNZ : Hid (N + 1 + 1 ≤ Z2.heap.size) := by
          have h1 := (unhide HS3).2
          have h2 := unhide HS5
          have h3 := unhide HK1
          have h4 := hb6.size
          show N + 1 + 1 ≤ Z2.heap.size
          omega
        clear hS HR1 HL1 HQ1 HK2 HS1 HR2 HX5 HS5 hb6
        skip
        refine wpAnyL_done (by kernel_rfl) ?_ _
        obtain ⟨c0, c1, c2⟩ := (unhide HLX).cells
        go_wp2_with (first
          | (go_at_call 42; refine (qPack (unhide HLX).toSx _ _ _ (unhide HPK)).mono ?_; rintro e Y1 ⟨rfl, hb⟩; clear c0 c1 c2; replace HX1 := hide (box_below (unhide HX1) hb); replace HX2 := hide (box_below (unhide HX2) hb); replace HO3 := hide ((unhide HO3).below hb); replace HLX := hide ((unhide HLX).below hb); replace HBU : Hid (Below N u Y1) := (unhide HBU).trans (hb.mono (by have := unhide HNZ; omega)); replace HNZ : Hid (N + 1 + 1 ≤ Y1.heap.size) := Nat.le_trans (unhide HNZ) hb.size; clear hb; obtain ⟨K3, hK3⟩ : ∃ K3, K3 = Y1.heap.size := ⟨_, rfl⟩; have HK3 := hide hK3; clear hK3)
          | ((with_reducible refine wpList_alloc_ce (by rfl) (by rfl) (some 7) (by rfl) K3 (unhide HK3) ?_); intro Y2 HY2 HB2 HSY2; simp only [Act.put, List.setIfInBounds_toArray, List.set_cons_zero, List.set_cons_succ])
          | ((with_reducible refine wpList_store_ce (by rfl) (.tmp 7) (.tmp 30) (by rfl) K3 k z (by with_unfolding_all rfl) (by with_unfolding_all rfl) _ _ (unhide HY2) ?_); intro Y3 HY3 HE3; simp only [Act.put]; have hb : Below Y1.heap.size Y1 Y3 := (by rw [unhide HE3, ← unhide HK3]; exact belowRow (unhide HB2) (Nat.le_refl _) _); replace HX1 := hide (box_below (unhide HX1) hb); replace HX2 := hide (box_below (unhide HX2) hb); replace HO3 := hide ((unhide HO3).below hb); replace HLX := hide ((unhide HLX).below hb); replace HBU : Hid (Below N u Y3) := (unhide HBU).trans (hb.mono (by have := unhide HNZ; omega)); clear hb HY2 HB2 HSY2 HE3 HK3; obtain ⟨c0, c1⟩ := ce_cells (unhide HX1); obtain ⟨d0, d1⟩ := ce_cells (unhide HY3); obtain ⟨e0, e1, e2⟩ := (unhide HLX).cells; replace e0 : Y3.cell? ⟨K2, 0, none⟩ = some (.string ky) := e0)
          | ((with_reducible refine wpList_store_ob (by rfl) (.tmp 2) (.tmp 40) (by rfl) (N + 1) ky x a b (by with_unfolding_all rfl) (by with_unfolding_all rfl) _ _ _ _ (unhide HX2) ?_); intro X7 HX7 HE7; simp only [Act.put])
          | fail)
        refine bodyPost_ret (results_cell_tmp rfl _ _ (N + 1) 33 #[.string ky, .slice x.sa a x.sc, .slice x.ba b x.bc] (0, 0) _ rfl (unhide HX7) obUnd rfl obInfo) rfl ?_
        refine ⟨x, a, b, rfl, unhide HE1, unhide HE2, ?_, by rw [unhide HE7]; exact belowRow (unhide HBU) (by omega) _⟩
        rw [unhide HE7]
        refine ((unhide HO3).down (by have := (unhide HS3).1; omega)).keep fun g hg => heapRow_other _ _ _ _ ?_
        have h1 := ((unhide HO3).lt hg).1
        have h2 := (unhide HS3).1
        omega
      · have hJ2 : unpV k z = (Ot.none, 4) := by unfold unpV; rw [if_neg]; rintro ⟨-, -, h3⟩; rw [hu, ← hpk] at h3; exact hg h3
        rw [hJ2] at hJ
        cases hJ
        clear hT hTo hTf hTz hu hpk hky hJ2 h1 hz
        by_cases hr : pr = 0
        · subst hr
          have hne : ∀ W : World, (binOp .neq 40 (.agg #[.string pk, .string pz]) (.agg #[.string k, .string z])).run Try.prog W = .ok (.bool true) W := fun W => by
            rw [neqCl]
            have : ((pk.toList == k.toList) && (pz.toList == z.toList)) = false := by
              rw [← Bool.not_eq_true, Bool.and_eq_true]
              rintro ⟨q1, q2⟩
              exact hg (by rw [toList_inj q1, toList_inj q2])
            rw [this]; rfl
          clear hg
          go_enter Try.func18, Try.ntmps18
          go_upto_region 4 with (first
            | ((with_reducible refine wpList_box_ce (by rfl) (.tmp 0) (by rfl) (some 1) (by rfl) N (unhide HN) k z (by with_unfolding_all rfl) ?_); intro W1 HX1 HB1 HS1; simp only [Act.put, List.setIfInBounds_toArray, List.set_cons_zero, List.set_cons_succ])
            | ((with_reducible refine wpList_alloc_ob (by rfl) (by rfl) (some 2) (by rfl) (N + 1) (unhide HS1).symm ?_); intro W2 HX2 HB2 HS2; simp only [Act.put, List.setIfInBounds_toArray, List.set_cons_zero, List.set_cons_succ]; replace HX1 : Hid (W2.heap[N]? = some (ceRow k z)) := ((unhide HB2).block N (Nat.lt_succ_self _)).trans (unhide HX1); have HBU : Hid (Below N u W2) := (unhide HB1).trans ((unhide HB2).mono (Nat.le_succ _)); clear HB1 HB2 HS1; obtain ⟨c0, c1⟩ := ce_cells (unhide HX1))
            | (go_at_call 43; refine (unhide HD W2).mono ?_; rintro e W3 ⟨x, a, b, rfl, h1, h2, h3, h4⟩; clear c0 c1; have HE1 := hide h1; have HE2 := hide h2; have HO3 := hide h3; have HL3 := hide h4; replace HX1 := hide (box_below (unhide HX1) h4); replace HX2 := hide (box_below (unhide HX2) h4); replace HBU : Hid (Below N u W3) := (unhide HBU).trans (h4.mono (by rw [unhide HS2]; omega)); have HS3 : Hid (N + 1 + 1 ≤ W2.heap.size ∧ N + 1 + 1 ≤ W3.heap.size) := (by have := h4.size; rw [unhide HS2] at this ⊢; exact ⟨Nat.le_refl _, this⟩); clear h1 h2 h3 h4; obtain ⟨K1, hK1⟩ : ∃ K1, K1 = W3.heap.size := ⟨_, rfl⟩; have HK1 := hide hK1; clear hK1)
            | ((with_reducible refine wpList_alloc_state (by rfl) (by rfl) (some 4) (by rfl) K1 (unhide HK1) ?_); intro W4 HX4 HB4 HS4; simp only [Act.put, List.setIfInBounds_toArray, List.set_cons_zero, List.set_cons_succ])
            | ((with_reducible refine wpList_store_state (by rfl) (.tmp 4) (.tmp 17) (by rfl) K1 x a b (by with_unfolding_all rfl) (by with_unfolding_all rfl) Sv.none 0 0 (unhide HX4) ?_); intro W5 HX5 HE5; simp only [Act.put]; have hb5 : Below W3.heap.size W3 W5 := (by rw [unhide HE5, ← unhide HK1]; exact belowRow (unhide HB4) (Nat.le_refl _) _); replace HX1 := hide (box_below (unhide HX1) hb5); replace HX2 := hide (box_below (unhide HX2) hb5); replace HO3 := hide ((unhide HO3).below hb5); replace HBU : Hid (Below N u W5) := (unhide HBU).trans (hb5.mono (by have := (unhide HS3).2; omega)); have HS5 : Hid (K1 + 1 = W5.heap.size) := (by rw [unhide HE5, size_setRow]; exact (unhide HS4).symm); clear hb5 HX4 HB4 HS4 HE5)
            | fail)
          go_wp2_with fail
          refine wp_region_last (fun V => Below W5.heap.size W5 V) 6 hmix (belowDrew (Below.refl _ _)) fun hS => ?_
          generalize W5.drew = Z0 at hS ⊢
          refine wpAnyL_take 0 19 (.pointer (some ⟨N, 0, none⟩)) [] rfl rfl (by kernel_rfl) (by kernel_rfl) (by kernel_rfl) (by kernel_rfl) (by kernel_rfl) (fun _ _ _ h => h) (by rfl) (fun _ _ => by go_simp) hS ?_
          simp only [Act.put, List.setIfInBounds_toArray, List.set_cons_zero, List.set_cons_succ]
          refine wpAnyL_take 1 20 (.string k) [] rfl rfl (by kernel_rfl) (by kernel_rfl) (by kernel_rfl) (by kernel_rfl) (by kernel_rfl) (fun _ _ _ h => h) (by rfl) (fun V hV => by obtain ⟨c0, c1⟩ := ce_cells (box_below (unhide HX1) hV); go_simp) hS ?_
          simp only [Act.put, List.setIfInBounds_toArray, List.set_cons_zero, List.set_cons_succ]
          refine wpAnyL_take 2 21 (.string ky) [] rfl rfl (by kernel_rfl) (by kernel_rfl) (by kernel_rfl) (by kernel_rfl) (by kernel_rfl) (fun _ _ _ h => h) (by rfl) (fun _ _ => by rw [← unhide HKY]; go_simp) hS ?_
          simp only [Act.put, List.setIfInBounds_toArray, List.set_cons_zero, List.set_cons_succ]
          refine wpAnyL_take 3 22 (x.v a b) [] rfl rfl (by kernel_rfl) (by kernel_rfl) (by kernel_rfl) (by kernel_rfl) (by kernel_rfl) (fun _ _ _ h => h) (by rfl) (fun V hV => by obtain ⟨c0, c1⟩ := st_cells (box_below (unhide HX5) hV); simp only [Sv.v]; go_simp) hS ?_
          simp only [Act.put, List.setIfInBounds_toArray, List.set_cons_zero, List.set_cons_succ]
          refine wpAnyL_take 4 23 (obV ky x a b) [] rfl rfl (by kernel_rfl) (by kernel_rfl) (by kernel_rfl) (by kernel_rfl) (by kernel_rfl) (fun _ _ _ h => h) (by rfl) (fun _ _ => by simp only [obV, Sv.v]; go_simp) hS ?_
          simp only [Act.put, List.setIfInBounds_toArray, List.set_cons_zero, List.set_cons_succ]
          refine wpAnyL_one (i := 5) (by kernel_rfl) rfl (by rfl) fun K hK => ?_
          refine wp_alloc_ob (by rfl) (some 6) (by rfl) ?_
          obtain ⟨Z1, hZ1⟩ : ∃ Z, Z = Z0.alloc (.cells #[.string ⟨#[]⟩, .slice none 0 0, .slice none 0 0] 33) := ⟨_, rfl⟩
          obtain ⟨K2, hK2⟩ : ∃ K, K = Z0.heap.size := ⟨_, rfl⟩
          have HR1 : Hid (Z1.heap[K2]? = some (obRow ⟨#[]⟩ Sv.none 0 0)) := by rw [hZ1, hK2]; exact heap_alloc_new _ _
          have HL1 : Hid (Below Z0.heap.size Z0 Z1) := by rw [hZ1]; exact (Below.refl _ _).alloc (Nat.le_refl _) _
          have HQ1 : Hid (Z1.heap.size = K2 + 1) := by rw [hZ1, hK2, World.size_alloc]; exact rfl
          have HK2 := hide hK2
          rw [← hZ1, ← hK2]
          clear hZ1 hK2
          have HS1 : Hid (Below W5.heap.size W5 Z1) := hS.trans ((unhide HL1).mono hS.size)
          refine hK _ _ (fun _ => unhide HS1) ?_
          clear hK K
          simp only [Act.put, List.setIfInBounds_toArray, List.set_cons_zero, List.set_cons_succ]
          refine wpAnyL_one (i := 6) (by kernel_rfl) rfl (by rfl) fun K hK => ?_
          refine wp_store_ob (.tmp 6) (.tmp 23) (by rfl) (by rfl) K2 ky x a b (by with_unfolding_all rfl) (by with_unfolding_all rfl) _ _ _ _ (unhide HR1) ?_
          obtain ⟨Z2, hZ2⟩ : ∃ Z, Z = Z1.setRow K2 #[.string ky, .slice x.sa a x.sc, .slice x.ba b x.bc] := ⟨_, rfl⟩
          have HR2 : Hid (Z2.heap[K2]? = some (obRow ky x a b)) := by rw [hZ2]; exact heapRow_same (unhide HR1) _
          have hb6 : Below W5.heap.size W5 Z2 := by rw [hZ2]; exact belowRow (unhide HS1) (by rw [unhide HK2]; exact hS.size) _
          have HQ2 : Hid (Z2.heap.size = K2 + 1) := by rw [hZ2, size_setRow]; exact unhide HQ1
          rw [← hZ2]
          clear hZ2
          refine hK _ _ (fun h => absurd rfl h) ?_
          clear hK K
          replace HX1 := hide (box_below (unhide HX1) hb6)
          replace HX2 := hide (box_below (unhide HX2) hb6)
          replace HO3 := hide ((unhide HO3).below hb6)
          replace HBU : Hid (Below N u Z2) := (unhide HBU).trans (hb6.mono (by have h1 := (unhide HS3).2; have h2 := unhide HS5; have h3 := unhide HK1; omega))
          have HLX : Hid (Lo Z2 K2 ⟨ky, T⟩ x a b) := ⟨⟨(unhide HO3).at (unhide HTF) (unhide HTO), unhide HE1, unhide HE2⟩, unhide HR2⟩
          have HNZ : Hid (N + 1 + 1 ≤ Z2.heap.size) := by
            have h1 := (unhide HS3).2
            have h2 := unhide HS5
            have h3 := unhide HK1
            have h4 := hb6.size
            show N + 1 + 1 ≤ Z2.heap.size
            omega
          clear hS HR1 HL1 HQ1 HK2 HS1 HR2 HX5 HS5 hb6
          skip
          refine wpAnyL_done (by kernel_rfl) ?_ _
          obtain ⟨c0, c1, c2⟩ := (unhide HLX).cells
          go_wp2_with (first
            | (go_at_call 42; refine (qPack (unhide HLX).toSx _ _ _ (unhide HPK)).mono ?_; rintro e Y1 ⟨rfl, hb⟩; clear c0 c1 c2; replace HX1 := hide (box_below (unhide HX1) hb); replace HX2 := hide (box_below (unhide HX2) hb); replace HO3 := hide ((unhide HO3).below hb); replace HLX := hide ((unhide HLX).below hb); replace HBU : Hid (Below N u Y1) := (unhide HBU).trans (hb.mono (by have := unhide HNZ; omega)); replace HNZ : Hid (N + 1 + 1 ≤ Y1.heap.size) := Nat.le_trans (unhide HNZ) hb.size; clear hb; obtain ⟨K3, hK3⟩ : ∃ K3, K3 = Y1.heap.size := ⟨_, rfl⟩; have HK3 := hide hK3; clear hK3)
            | ((with_reducible refine wpList_alloc_ce (by rfl) (by rfl) (some 7) (by rfl) K3 (unhide HK3) ?_); intro Y2 HY2 HB2 HSY2; simp only [Act.put, List.setIfInBounds_toArray, List.set_cons_zero, List.set_cons_succ])
            | ((with_reducible refine wpList_store_ce (by rfl) (.tmp 7) (.tmp 30) (by rfl) K3 pk pz (by with_unfolding_all rfl) (by with_unfolding_all rfl) _ _ (unhide HY2) ?_); intro Y3 HY3 HE3; simp only [Act.put]; have hb : Below Y1.heap.size Y1 Y3 := (by rw [unhide HE3, ← unhide HK3]; exact belowRow (unhide HB2) (Nat.le_refl _) _); replace HX1 := hide (box_below (unhide HX1) hb); replace HX2 := hide (box_below (unhide HX2) hb); replace HO3 := hide ((unhide HO3).below hb); replace HLX := hide ((unhide HLX).below hb); replace HBU : Hid (Below N u Y3) := (unhide HBU).trans (hb.mono (by have := unhide HNZ; omega)); clear hb HY2 HB2 HSY2 HE3 HK3; obtain ⟨c0, c1⟩ := ce_cells (unhide HX1); obtain ⟨d0, d1⟩ := ce_cells (unhide HY3); obtain ⟨e0, e1, e2⟩ := (unhide HLX).cells; replace e0 : Y3.cell? ⟨K2, 0, none⟩ = some (.string ky) := e0)
            | ((with_reducible refine wpList_store_ob (by rfl) (.tmp 2) (.tmp 39) (by rfl) (N + 1) ⟨#[]⟩ Sv.none 0 0 (by with_unfolding_all rfl) (by with_unfolding_all rfl) _ _ _ _ (unhide HX2) ?_); intro X7 HX7 HE7; simp only [Act.put])
            | fail)
          refine bodyPost_ret (results_cell_tmp rfl _ _ (N + 1) 33 #[.string ⟨#[]⟩, .slice none 0 0, .slice none 0 0] (0, 0) _ rfl (unhide HX7) obUnd rfl obInfo) rfl ?_
          exact ⟨Sv.none, 0, 0, rfl, rfl, rfl, OwnT.none _ _, by rw [unhide HE7]; exact belowRow (unhide HBU) (by omega) _⟩
        · have hr' : (pr != 0) = true := by simpa using hr
          clear hg
          go_enter Try.func18, Try.ntmps18
          go_upto_region 4 with (first
            | ((with_reducible refine wpList_box_ce (by rfl) (.tmp 0) (by rfl) (some 1) (by rfl) N (unhide HN) k z (by with_unfolding_all rfl) ?_); intro W1 HX1 HB1 HS1; simp only [Act.put, List.setIfInBounds_toArray, List.set_cons_zero, List.set_cons_succ])
            | ((with_reducible refine wpList_alloc_ob (by rfl) (by rfl) (some 2) (by rfl) (N + 1) (unhide HS1).symm ?_); intro W2 HX2 HB2 HS2; simp only [Act.put, List.setIfInBounds_toArray, List.set_cons_zero, List.set_cons_succ]; replace HX1 : Hid (W2.heap[N]? = some (ceRow k z)) := ((unhide HB2).block N (Nat.lt_succ_self _)).trans (unhide HX1); have HBU : Hid (Below N u W2) := (unhide HB1).trans ((unhide HB2).mono (Nat.le_succ _)); clear HB1 HB2 HS1; obtain ⟨c0, c1⟩ := ce_cells (unhide HX1))
            | (go_at_call 43; refine (unhide HD W2).mono ?_; rintro e W3 ⟨x, a, b, rfl, h1, h2, h3, h4⟩; clear c0 c1; have HE1 := hide h1; have HE2 := hide h2; have HO3 := hide h3; have HL3 := hide h4; replace HX1 := hide (box_below (unhide HX1) h4); replace HX2 := hide (box_below (unhide HX2) h4); replace HBU : Hid (Below N u W3) := (unhide HBU).trans (h4.mono (by rw [unhide HS2]; omega)); have HS3 : Hid (N + 1 + 1 ≤ W2.heap.size ∧ N + 1 + 1 ≤ W3.heap.size) := (by have := h4.size; rw [unhide HS2] at this ⊢; exact ⟨Nat.le_refl _, this⟩); clear h1 h2 h3 h4; obtain ⟨K1, hK1⟩ : ∃ K1, K1 = W3.heap.size := ⟨_, rfl⟩; have HK1 := hide hK1; clear hK1)
            | ((with_reducible refine wpList_alloc_state (by rfl) (by rfl) (some 4) (by rfl) K1 (unhide HK1) ?_); intro W4 HX4 HB4 HS4; simp only [Act.put, List.setIfInBounds_toArray, List.set_cons_zero, List.set_cons_succ])
            | ((with_reducible refine wpList_store_state (by rfl) (.tmp 4) (.tmp 17) (by rfl) K1 x a b (by with_unfolding_all rfl) (by with_unfolding_all rfl) Sv.none 0 0 (unhide HX4) ?_); intro W5 HX5 HE5; simp only [Act.put]; have hb5 : Below W3.heap.size W3 W5 := (by rw [unhide HE5, ← unhide HK1]; exact belowRow (unhide HB4) (Nat.le_refl _) _); replace HX1 := hide (box_below (unhide HX1) hb5); replace HX2 := hide (box_below (unhide HX2) hb5); replace HO3 := hide ((unhide HO3).below hb5); replace HBU : Hid (Below N u W5) := (unhide HBU).trans (hb5.mono (by have := (unhide HS3).2; omega)); have HS5 : Hid (K1 + 1 = W5.heap.size) := (by rw [unhide HE5, size_setRow]; exact (unhide HS4).symm); clear hb5 HX4 HB4 HS4 HE5)
            | fail)
          go_wp2_with fail
          refine wp_region_last (fun V => Below W5.heap.size W5 V) 6 hmix (belowDrew (Below.refl _ _)) fun hS => ?_
          generalize W5.drew = Z0 at hS ⊢
          refine wpAnyL_take 0 19 (.pointer (some ⟨N, 0, none⟩)) [] rfl rfl (by kernel_rfl) (by kernel_rfl) (by kernel_rfl) (by kernel_rfl) (by kernel_rfl) (fun _ _ _ h => h) (by rfl) (fun _ _ => by go_simp) hS ?_
          simp only [Act.put, List.setIfInBounds_toArray, List.set_cons_zero, List.set_cons_succ]
          refine wpAnyL_take 1 20 (.string k) [] rfl rfl (by kernel_rfl) (by kernel_rfl) (by kernel_rfl) (by kernel_rfl) (by kernel_rfl) (fun _ _ _ h => h) (by rfl) (fun V hV => by obtain ⟨c0, c1⟩ := ce_cells (box_below (unhide HX1) hV); go_simp) hS ?_
          simp only [Act.put, List.setIfInBounds_toArray, List.set_cons_zero, List.set_cons_succ]
          refine wpAnyL_take 2 21 (.string ky) [] rfl rfl (by kernel_rfl) (by kernel_rfl) (by kernel_rfl) (by kernel_rfl) (by kernel_rfl) (fun _ _ _ h => h) (by rfl) (fun _ _ => by rw [← unhide HKY]; go_simp) hS ?_
          simp only [Act.put, List.setIfInBounds_toArray, List.set_cons_zero, List.set_cons_succ]
          refine wpAnyL_take 3 22 (x.v a b) [] rfl rfl (by kernel_rfl) (by kernel_rfl) (by kernel_rfl) (by kernel_rfl) (by kernel_rfl) (fun _ _ _ h => h) (by rfl) (fun V hV => by obtain ⟨c0, c1⟩ := st_cells (box_below (unhide HX5) hV); simp only [Sv.v]; go_simp) hS ?_
          simp only [Act.put, List.setIfInBounds_toArray, List.set_cons_zero, List.set_cons_succ]
          refine wpAnyL_take 4 23 (obV ky x a b) [] rfl rfl (by kernel_rfl) (by kernel_rfl) (by kernel_rfl) (by kernel_rfl) (by kernel_rfl) (fun _ _ _ h => h) (by rfl) (fun _ _ => by simp only [obV, Sv.v]; go_simp) hS ?_
          simp only [Act.put, List.setIfInBounds_toArray, List.set_cons_zero, List.set_cons_succ]
          refine wpAnyL_one (i := 5) (by kernel_rfl) rfl (by rfl) fun K hK => ?_
          refine wp_alloc_ob (by rfl) (some 6) (by rfl) ?_
          obtain ⟨Z1, hZ1⟩ : ∃ Z, Z = Z0.alloc (.cells #[.string ⟨#[]⟩, .slice none 0 0, .slice none 0 0] 33) := ⟨_, rfl⟩
          obtain ⟨K2, hK2⟩ : ∃ K, K = Z0.heap.size := ⟨_, rfl⟩
          have HR1 : Hid (Z1.heap[K2]? = some (obRow ⟨#[]⟩ Sv.none 0 0)) := by rw [hZ1, hK2]; exact heap_alloc_new _ _
          have HL1 : Hid (Below Z0.heap.size Z0 Z1) := by rw [hZ1]; exact (Below.refl _ _).alloc (Nat.le_refl _) _
          have HQ1 : Hid (Z1.heap.size = K2 + 1) := by rw [hZ1, hK2, World.size_alloc]; exact rfl
          have HK2 := hide hK2
          rw [← hZ1, ← hK2]
          clear hZ1 hK2
          have HS1 : Hid (Below W5.heap.size W5 Z1) := hS.trans ((unhide HL1).mono hS.size)
          refine hK _ _ (fun _ => unhide HS1) ?_
          clear hK K
          simp only [Act.put, List.setIfInBounds_toArray, List.set_cons_zero, List.set_cons_succ]
          refine wpAnyL_one (i := 6) (by kernel_rfl) rfl (by rfl) fun K hK => ?_
          refine wp_store_ob (.tmp 6) (.tmp 23) (by rfl) (by rfl) K2 ky x a b (by with_unfolding_all rfl) (by with_unfolding_all rfl) _ _ _ _ (unhide HR1) ?_
          obtain ⟨Z2, hZ2⟩ : ∃ Z, Z = Z1.setRow K2 #[.string ky, .slice x.sa a x.sc, .slice x.ba b x.bc] := ⟨_, rfl⟩
          have HR2 : Hid (Z2.heap[K2]? = some (obRow ky x a b)) := by rw [hZ2]; exact heapRow_same (unhide HR1) _
          have hb6 : Below W5.heap.size W5 Z2 := by rw [hZ2]; exact belowRow (unhide HS1) (by rw [unhide HK2]; exact hS.size) _
          have HQ2 : Hid (Z2.heap.size = K2 + 1) := by rw [hZ2, size_setRow]; exact unhide HQ1
          rw [← hZ2]
          clear hZ2
          refine hK _ _ (fun h => absurd rfl h) ?_
          clear hK K
          replace HX1 := hide (box_below (unhide HX1) hb6)
          replace HX2 := hide (box_below (unhide HX2) hb6)
          replace HO3 := hide ((unhide HO3).below hb6)
          replace HBU : Hid (Below N u Z2) := (unhide HBU).trans (hb6.mono (by have h1 := (unhide HS3).2; have h2 := unhide HS5; have h3 := unhide HK1; omega))
          have HLX : Hid (Lo Z2 K2 ⟨ky, T⟩ x a b) := ⟨⟨(unhide HO3).at (unhide HTF) (unhide HTO), unhide HE1, unhide HE2⟩, unhide HR2⟩
          have HNZ : Hid (N + 1 + 1 ≤ Z2.heap.size) := by
            have h1 := (unhide HS3).2
            have h2 := unhide HS5
            have h3 := unhide HK1
            have h4 := hb6.size
            show N + 1 + 1 ≤ Z2.heap.size
            omega
          clear hS HR1 HL1 HQ1 HK2 HS1 HR2 HX5 HS5 hb6
          skip
          refine wpAnyL_done (by kernel_rfl) ?_ _
          obtain ⟨c0, c1, c2⟩ := (unhide HLX).cells
          go_wp2_with (first
            | (go_at_call 42; refine (qPack (unhide HLX).toSx _ _ _ (unhide HPK)).mono ?_; rintro e Y1 ⟨rfl, hb⟩; clear c0 c1 c2; replace HX1 := hide (box_below (unhide HX1) hb); replace HX2 := hide (box_below (unhide HX2) hb); replace HO3 := hide ((unhide HO3).below hb); replace HLX := hide ((unhide HLX).below hb); replace HBU : Hid (Below N u Y1) := (unhide HBU).trans (hb.mono (by have := unhide HNZ; omega)); replace HNZ : Hid (N + 1 + 1 ≤ Y1.heap.size) := Nat.le_trans (unhide HNZ) hb.size; clear hb; obtain ⟨K3, hK3⟩ : ∃ K3, K3 = Y1.heap.size := ⟨_, rfl⟩; have HK3 := hide hK3; clear hK3)
            | ((with_reducible refine wpList_alloc_ce (by rfl) (by rfl) (some 7) (by rfl) K3 (unhide HK3) ?_); intro Y2 HY2 HB2 HSY2; simp only [Act.put, List.setIfInBounds_toArray, List.set_cons_zero, List.set_cons_succ])
            | ((with_reducible refine wpList_store_ce (by rfl) (.tmp 7) (.tmp 30) (by rfl) K3 pk pz (by with_unfolding_all rfl) (by with_unfolding_all rfl) _ _ (unhide HY2) ?_); intro Y3 HY3 HE3; simp only [Act.put]; have hb : Below Y1.heap.size Y1 Y3 := (by rw [unhide HE3, ← unhide HK3]; exact belowRow (unhide HB2) (Nat.le_refl _) _); replace HX1 := hide (box_below (unhide HX1) hb); replace HX2 := hide (box_below (unhide HX2) hb); replace HO3 := hide ((unhide HO3).below hb); replace HLX := hide ((unhide HLX).below hb); replace HBU : Hid (Below N u Y3) := (unhide HBU).trans (hb.mono (by have := unhide HNZ; omega)); clear hb HY2 HB2 HSY2 HE3 HK3; obtain ⟨c0, c1⟩ := ce_cells (unhide HX1); obtain ⟨d0, d1⟩ := ce_cells (unhide HY3); obtain ⟨e0, e1, e2⟩ := (unhide HLX).cells; replace e0 : Y3.cell? ⟨K2, 0, none⟩ = some (.string ky) := e0)
            | ((with_reducible refine wpList_store_ob (by rfl) (.tmp 2) (.tmp 39) (by rfl) (N + 1) ⟨#[]⟩ Sv.none 0 0 (by with_unfolding_all rfl) (by with_unfolding_all rfl) _ _ _ _ (unhide HX2) ?_); intro X7 HX7 HE7; simp only [Act.put])
            | fail)
          refine bodyPost_ret (results_cell_tmp rfl _ _ (N + 1) 33 #[.string ⟨#[]⟩, .slice none 0 0, .slice none 0 0] (0, 0) _ rfl (unhide HX7) obUnd rfl obInfo) rfl ?_
          exact ⟨Sv.none, 0, 0, rfl, rfl, rfl, OwnT.none _ _, by rw [unhide HE7]; exact belowRow (unhide HBU) (by omega) _⟩
    · have HD := hide (fun W => rDecT z W hz St.none 110 hT)
      have hJ2 : unpV k z = (Ot.none, 4) := by unfold unpV; rw [if_neg]; rintro ⟨-, h3, -⟩; rw [hT] at h3; cases h3
      rw [hJ2] at hJ
      cases hJ
      clear hT hJ2 h1 hz
      have HTO := hide (trivial : True)
      have HTF := hide (trivial : True)
      obtain ⟨ky, hky⟩ : ∃ ky, k.extract 2 k.size = ky := ⟨_, rfl⟩
      have HKY := hide hky
      clear hky
      go_enter Try.func18, Try.ntmps18
      go_upto_region 4 with (first
        | ((with_reducible refine wpList_box_ce (by rfl) (.tmp 0) (by rfl) (some 1) (by rfl) N (unhide HN) k z (by with_unfolding_all rfl) ?_); intro W1 HX1 HB1 HS1; simp only [Act.put, List.setIfInBounds_toArray, List.set_cons_zero, List.set_cons_succ])
        | ((with_reducible refine wpList_alloc_ob (by rfl) (by rfl) (some 2) (by rfl) (N + 1) (unhide HS1).symm ?_); intro W2 HX2 HB2 HS2; simp only [Act.put, List.setIfInBounds_toArray, List.set_cons_zero, List.set_cons_succ]; replace HX1 : Hid (W2.heap[N]? = some (ceRow k z)) := ((unhide HB2).block N (Nat.lt_succ_self _)).trans (unhide HX1); have HBU : Hid (Below N u W2) := (unhide HB1).trans ((unhide HB2).mono (Nat.le_succ _)); clear HB1 HB2 HS1; obtain ⟨c0, c1⟩ := ce_cells (unhide HX1))
        | (go_at_call 43; refine (unhide HD W2).mono ?_; rintro e W3 ⟨x, a, b, rfl, h1, h2, h3, h4⟩; clear c0 c1; have HE1 := hide h1; have HE2 := hide h2; have HO3 := hide h3; have HL3 := hide h4; replace HX1 := hide (box_below (unhide HX1) h4); replace HX2 := hide (box_below (unhide HX2) h4); replace HBU : Hid (Below N u W3) := (unhide HBU).trans (h4.mono (by rw [unhide HS2]; omega)); have HS3 : Hid (N + 1 + 1 ≤ W2.heap.size ∧ N + 1 + 1 ≤ W3.heap.size) := (by have := h4.size; rw [unhide HS2] at this ⊢; exact ⟨Nat.le_refl _, this⟩); clear h1 h2 h3 h4; obtain ⟨K1, hK1⟩ : ∃ K1, K1 = W3.heap.size := ⟨_, rfl⟩; have HK1 := hide hK1; clear hK1)
        | ((with_reducible refine wpList_alloc_state (by rfl) (by rfl) (some 4) (by rfl) K1 (unhide HK1) ?_); intro W4 HX4 HB4 HS4; simp only [Act.put, List.setIfInBounds_toArray, List.set_cons_zero, List.set_cons_succ])
        | ((with_reducible refine wpList_store_state (by rfl) (.tmp 4) (.tmp 17) (by rfl) K1 x a b (by with_unfolding_all rfl) (by with_unfolding_all rfl) Sv.none 0 0 (unhide HX4) ?_); intro W5 HX5 HE5; simp only [Act.put]; have hb5 : Below W3.heap.size W3 W5 := (by rw [unhide HE5, ← unhide HK1]; exact belowRow (unhide HB4) (Nat.le_refl _) _); replace HX1 := hide (box_below (unhide HX1) hb5); replace HX2 := hide (box_below (unhide HX2) hb5); replace HO3 := hide ((unhide HO3).below hb5); replace HBU : Hid (Below N u W5) := (unhide HBU).trans (hb5.mono (by have := (unhide HS3).2; omega)); have HS5 : Hid (K1 + 1 = W5.heap.size) := (by rw [unhide HE5, size_setRow]; exact (unhide HS4).symm); clear hb5 HX4 HB4 HS4 HE5)
        | fail)
      go_wp2_with fail
      refine wp_region_last (fun V => Below W5.heap.size W5 V) 6 hmix (belowDrew (Below.refl _ _)) fun hS => ?_
      generalize W5.drew = Z0 at hS ⊢
      refine wpAnyL_take 0 19 (.pointer (some ⟨N, 0, none⟩)) [] rfl rfl (by kernel_rfl) (by kernel_rfl) (by kernel_rfl) (by kernel_rfl) (by kernel_rfl) (fun _ _ _ h => h) (by rfl) (fun _ _ => by go_simp) hS ?_
      simp only [Act.put, List.setIfInBounds_toArray, List.set_cons_zero, List.set_cons_succ]
      refine wpAnyL_take 1 20 (.string k) [] rfl rfl (by kernel_rfl) (by kernel_rfl) (by kernel_rfl) (by kernel_rfl) (by kernel_rfl) (fun _ _ _ h => h) (by rfl) (fun V hV => by obtain ⟨c0, c1⟩ := ce_cells (box_below (unhide HX1) hV); go_simp) hS ?_
      simp only [Act.put, List.setIfInBounds_toArray, List.set_cons_zero, List.set_cons_succ]
      refine wpAnyL_take 2 21 (.string ky) [] rfl rfl (by kernel_rfl) (by kernel_rfl) (by kernel_rfl) (by kernel_rfl) (by kernel_rfl) (fun _ _ _ h => h) (by rfl) (fun _ _ => by rw [← unhide HKY]; go_simp) hS ?_
      simp only [Act.put, List.setIfInBounds_toArray, List.set_cons_zero, List.set_cons_succ]
      refine wpAnyL_take 3 22 (x.v a b) [] rfl rfl (by kernel_rfl) (by kernel_rfl) (by kernel_rfl) (by kernel_rfl) (by kernel_rfl) (fun _ _ _ h => h) (by rfl) (fun V hV => by obtain ⟨c0, c1⟩ := st_cells (box_below (unhide HX5) hV); simp only [Sv.v]; go_simp) hS ?_
      simp only [Act.put, List.setIfInBounds_toArray, List.set_cons_zero, List.set_cons_succ]
      refine wpAnyL_take 4 23 (obV ky x a b) [] rfl rfl (by kernel_rfl) (by kernel_rfl) (by kernel_rfl) (by kernel_rfl) (by kernel_rfl) (fun _ _ _ h => h) (by rfl) (fun _ _ => by simp only [obV, Sv.v]; go_simp) hS ?_
      simp only [Act.put, List.setIfInBounds_toArray, List.set_cons_zero, List.set_cons_succ]
      refine wpAnyL_one (i := 5) (by kernel_rfl) rfl (by rfl) fun K hK => ?_
      refine wp_alloc_ob (by rfl) (some 6) (by rfl) ?_
      obtain ⟨Z1, hZ1⟩ : ∃ Z, Z = Z0.alloc (.cells #[.string ⟨#[]⟩, .slice none 0 0, .slice none 0 0] 33) := ⟨_, rfl⟩
      obtain ⟨K2, hK2⟩ : ∃ K, K = Z0.heap.size := ⟨_, rfl⟩
      have HR1 : Hid (Z1.heap[K2]? = some (obRow ⟨#[]⟩ Sv.none 0 0)) := by rw [hZ1, hK2]; exact heap_alloc_new _ _
      have HL1 : Hid (Below Z0.heap.size Z0 Z1) := by rw [hZ1]; exact (Below.refl _ _).alloc (Nat.le_refl _) _
      have HQ1 : Hid (Z1.heap.size = K2 + 1) := by rw [hZ1, hK2, World.size_alloc]; exact rfl
      have HK2 := hide hK2
      rw [← hZ1, ← hK2]
      clear hZ1 hK2
      have HS1 : Hid (Below W5.heap.size W5 Z1) := hS.trans ((unhide HL1).mono hS.size)
      refine hK _ _ (fun _ => unhide HS1) ?_
      clear hK K
      simp only [Act.put, List.setIfInBounds_toArray, List.set_cons_zero, List.set_cons_succ]
      refine wpAnyL_one (i := 6) (by kernel_rfl) rfl (by rfl) fun K hK => ?_
      refine wp_store_ob (.tmp 6) (.tmp 23) (by rfl) (by rfl) K2 ky x a b (by with_unfolding_all rfl) (by with_unfolding_all rfl) _ _ _ _ (unhide HR1) ?_
      obtain ⟨Z2, hZ2⟩ : ∃ Z, Z = Z1.setRow K2 #[.string ky, .slice x.sa a x.sc, .slice x.ba b x.bc] := ⟨_, rfl⟩
      have HR2 : Hid (Z2.heap[K2]? = some (obRow ky x a b)) := by rw [hZ2]; exact heapRow_same (unhide HR1) _
      have hb6 : Below W5.heap.size W5 Z2 := by rw [hZ2]; exact belowRow (unhide HS1) (by rw [unhide HK2]; exact hS.size) _
      have HQ2 : Hid (Z2.heap.size = K2 + 1) := by rw [hZ2, size_setRow]; exact unhide HQ1
      rw [← hZ2]
      clear hZ2
      refine hK _ _ (fun h => absurd rfl h) ?_
      clear hK K
      replace HX1 := hide (box_below (unhide HX1) hb6)
      replace HX2 := hide (box_below (unhide HX2) hb6)
      replace HO3 := hide ((unhide HO3).below hb6)
      replace HBU : Hid (Below N u Z2) := (unhide HBU).trans (hb6.mono (by have h1 := (unhide HS3).2; have h2 := unhide HS5; have h3 := unhide HK1; omega))
      have HNZ : Hid (N + 1 + 1 ≤ Z2.heap.size) := by
        have h1 := (unhide HS3).2
        have h2 := unhide HS5
        have h3 := unhide HK1
        have h4 := hb6.size
        show N + 1 + 1 ≤ Z2.heap.size
        omega
      clear hS HR1 HL1 HQ1 HK2 HS1 HR2 HX5 HS5 hb6
      skip
      refine wpAnyL_done (by kernel_rfl) ?_ _
      go_wp2_with (first
        | ((with_reducible refine wpList_store_ob (by rfl) (.tmp 2) (.tmp 26) (by rfl) (N + 1) ⟨#[]⟩ Sv.none 0 0 (by with_unfolding_all rfl) (by with_unfolding_all rfl) _ _ _ _ (unhide HX2) ?_); intro X7 HX7 HE7; simp only [Act.put])
        | fail)
      refine bodyPost_ret (results_cell_tmp rfl _ _ (N + 1) 33 #[.string ⟨#[]⟩, .slice none 0 0, .slice none 0 0] (0, 0) _ rfl (unhide HX7) obUnd rfl obInfo) rfl ?_
      exact ⟨Sv.none, 0, 0, rfl, rfl, rfl, OwnT.none _ _, by rw [unhide HE7]; exact belowRow (unhide HBU) (by omega) _⟩
  · have hlt : (k.size : Int) < 2 := by omega
    have hJ2 : unpV k z = (Ot.none, 4) := by unfold unpV; rw [if_neg]; rintro ⟨h3, -, -⟩; exact h1 h3
    rw [hJ2] at hJ
    cases hJ
    clear hJ2 h1 hz
    go_enter Try.func18, Try.ntmps18
    go_wp2_with (first
      | ((with_reducible refine wpList_box_ce (by rfl) (.tmp 0) (by rfl) (some 1) (by rfl) N (unhide HN) k z (by with_unfolding_all rfl) ?_); intro W1 HX1 HB1 HS1; simp only [Act.put, List.setIfInBounds_toArray, List.set_cons_zero, List.set_cons_succ])
      | ((with_reducible refine wpList_alloc_ob (by rfl) (by rfl) (some 2) (by rfl) (N + 1) (unhide HS1).symm ?_); intro W2 HX2 HB2 HS2; simp only [Act.put, List.setIfInBounds_toArray, List.set_cons_zero, List.set_cons_succ]; replace HX1 : Hid (W2.heap[N]? = some (ceRow k z)) := ((unhide HB2).block N (Nat.lt_succ_self _)).trans (unhide HX1); have HBU : Hid (Below N u W2) := (unhide HB1).trans ((unhide HB2).mono (Nat.le_succ _)); clear HB1 HB2 HS1; obtain ⟨c0, c1⟩ := ce_cells (unhide HX1))
      | ((with_reducible refine wpList_store_ob (by rfl) (.tmp 2) (.tmp 12) (by rfl) (N + 1) ⟨#[]⟩ Sv.none 0 0 (by with_unfolding_all rfl) (by with_unfolding_all rfl) _ _ _ _ (unhide HX2) ?_); intro X7 HX7 HE7; simp only [Act.put])
      | fail)
    refine bodyPost_ret (results_cell_tmp rfl _ _ (N + 1) 33 #[.string ⟨#[]⟩, .slice none 0 0, .slice none 0 0] (0, 0) _ rfl (unhide HX7) obUnd rfl obInfo) rfl ?_
    exact ⟨Sv.none, 0, 0, rfl, rfl, rfl, OwnT.none _ _, by rw [unhide HE7]; exact belowRow (unhide HBU) (by omega) _⟩
end Go.Proofs.Ytkcbljmjhlnjpaa
