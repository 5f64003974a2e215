/- Objects: Pack, Unpack, Same (written by mkoh.py). -/
import Derived.Test.YtkcbljmjhlnjpaaQ20
namespace Go.Proofs.Ytkcbljmjhlnjpaa
open Go.RowKit Go.Lib
theorem wp_alloc_ob {o : Oper} {a : Act} {w : World} {K : Act → World → Prop} {Q : Exit → Act → World → Prop} (ho : o.op = .alloc 33) (d : Option Tmp) (hd : o.dst = d) (h : K (a.put d (.pointer (some ⟨w.heap.size, 0, none⟩))) (w.alloc (.cells #[.string ⟨#[]⟩, .slice none 0 0, .slice none 0 0] 33))) : o.wp Try.prog a w K Q := by
  subst hd
  obtain ⟨z, h1, h2⟩ := zero_run zeroOb w
  unfold Oper.wp execOp
  simp only [ho, Sem.run_bind, Instr.alloc, h1, newVar, newRow, run_newObj_alloc, Sem.run_pure, Result.andThen_ok, h2]
  exact h
theorem wp_store_ob {o : Oper} {a : Act} {w : World} {K : Act → World → Prop} {Q : Exit → Act → World → Prop} (x y : Operand) (ho : o.op = .store 33 x y) (hd : o.dst = none) (g : Nat) (k : ByteArray) (v : Sv) (n m : Nat) (hx : a.eval x = .pointer (some ⟨g, 0, none⟩)) (hy : a.eval y = obV k v n m)
    (k0 : ByteArray) (v0 : Sv) (n0 m0 : Nat) (hg : w.heap[g]? = some (obRow k0 v0 n0 m0)) (h : K a (w.setRow g #[.string k, .slice v.sa n v.sc, .slice v.ba m v.bc])) : o.wp Try.prog a w K Q :=
  wp_store_row 33 x y ho g #[.string k, .slice v.sa n v.sc, .slice v.ba m v.bc] hx hy 33 _ hg obInfo rfl (ob_one _ _ _ _ _ _ _) (by rw [hd]; exact h)
set_option maxRecDepth 100000 in
set_option maxHeartbeats 2000000 in
theorem oPack1 {G : World} {g : Nat} {o : Ot} {v : Sv} {n m : Nat} (h : Lo G g o v n m) (hc : ckE o = 0) : Calls Try.prog 56 (#[.string ⟨(stB o.st).toArray⟩] ++ #[.pointer (some ⟨g, 0, none⟩)]) G fun e W' => ∃ y, e = .returned y ∧ (y = .tuple #[.agg #[.string (packV o).1, .string (packV o).2.1], .int .i64 (packV o).2.2] ∧ Below G.heap.size G W') := by
  obtain ⟨N, hN⟩ : ∃ N, N = G.heap.size := ⟨_, rfl⟩
  have HN := hide hN
  have HU : Hid (∀ V : World, Below N G V → Below G.heap.size G V) := fun V hV => by rw [← unhide HN]; exact hV
  have HAB := hide (oAbsent o.key v n m h.toSx.few)
  have hen := h.toSx.en
  have HL := hide h
  have HP := hide (oPlace0 o.key (ck_zero.1 hc).1.2)
  have hp : plN o.key < 65536 := Nat.lt_trans (plN_lt _) (by decide)
  have hk : o.key.size ≤ 1000 := by have := (ck_zero.1 hc).1.2; omega
  have hs : packV o = if n = 0 then (eB, eB, 110) else (cellK o.key, ⟨(stB o.st).toArray⟩, 0) := by
    unfold packV
    rw [if_pos hc, ← hen]
  rw [hs, ← hN]
  unfold cellK
  generalize (⟨(stB o.st).toArray⟩ : ByteArray) = b at *
  generalize plN o.key = p at *
  have hw : IntKind.u64.wrap (p : Int) = (p : Int) := by rw [IntKind.wrap_u64]; omega
  have HPL := hide hp
  have HKS := hide hk
  have HFL : Hid ((W.fixB p 2).length ≤ 1000) := by show (W.fixB p 2).length ≤ 1000; rw [W.fixB_length]; decide
  clear h hc hs hen hp hk hN
  show Calls Try.prog 56 #[.string b, .pointer (some ⟨g, 0, none⟩)] G _
  by_cases h0 : n = 0
  · rw [decide_eq_true h0] at HAB
    rw [if_pos h0]
    clear h0
    go_enter Try.func56, Try.ntmps56
    go_wp2_with (first
      | ((with_reducible refine wpList_alloc_ce (by rfl) (by rfl) (some 3) (by rfl) N (unhide HN) ?_); intro W1 HX1 HB1 HS1; simp only [Act.put, List.setIfInBounds_toArray, List.set_cons_zero, List.set_cons_succ]; obtain ⟨c0, c1, c2⟩ := ((unhide HL).below (unhide HU _ (unhide HB1))).cells)
      | (go_at_call 57; refine (unhide HAB W1).mono ?_; rintro e W2 ⟨rfl, hb⟩; replace HX1 := hide (box_below (unhide HX1) hb); replace HB1 : Hid (Below N G W2) := (unhide HB1).trans (hb.mono (by rw [unhide HS1]; omega)); clear hb)
      | ((with_reducible refine wpList_store_ce (by rfl) (.tmp 3) (.tmp 8) (by rfl) N ⟨#[]⟩ ⟨#[]⟩ (by with_unfolding_all rfl) (by with_unfolding_all rfl) _ _ (unhide HX1) ?_); intro W7 HX7 HE7; simp only [Act.put])
      | fail)
    refine bodyPost_ret (results_cell_tmp rfl _ _ N 40 #[.string ⟨#[]⟩, .string ⟨#[]⟩] (0, 0) _ rfl (unhide HX7) ceUnd rfl ceInfo) rfl ?_
    exact ⟨_, rfl, rfl, by rw [unhide HE7]; exact belowRow (unhide HB1) (Nat.le_refl _) _⟩
  · rw [decide_eq_false h0] at HAB
    rw [if_neg h0]
    clear h0
    go_enter Try.func56, Try.ntmps56
    go_wp2_with (first
      | ((with_reducible refine wpList_alloc_ce (by rfl) (by rfl) (some 3) (by rfl) N (unhide HN) ?_); intro W1 HX1 HB1 HS1; simp only [Act.put, List.setIfInBounds_toArray, List.set_cons_zero, List.set_cons_succ]; obtain ⟨c0, c1, c2⟩ := ((unhide HL).below (unhide HU _ (unhide HB1))).cells)
      | (go_at_call 57; refine (unhide HAB W1).mono ?_; rintro e W2 ⟨rfl, hb⟩; replace HX1 := hide (box_below (unhide HX1) hb); replace HB1 : Hid (Below N G W2) := (unhide HB1).trans (hb.mono (by rw [unhide HS1]; omega)); have HS2 : Hid (N + 1 ≤ W2.heap.size) := (by have := hb.size; rw [unhide HS1] at this; exact this); clear hb c0 c1 c2)
      | (go_at_call 58; refine (wnNew W2).mono ?_; rintro e W3 ⟨a, r3, rfl, hw⟩; have HW := hide hw; obtain ⟨c0, c1, c2⟩ := ((unhide HL).below (unhide HU _ ((unhide HB1).trans (hw.below.mono (by have := unhide HS2; omega))))).cells; clear hw)
      | (go_at_call 33; refine (unhide HP W3).mono ?_; rintro e W4 ⟨rfl, hb⟩; replace HW := hide ((unhide HW).belw hb); clear hb c0 c1 c2)
      | (go_at_call 59; refine (wnFixed (unhide HW) p (unhide HPL)).mono ?_; rintro e W5 ⟨rfl, r5, hw⟩; clear HW; have HW := hide hw; obtain ⟨c0, c1, c2⟩ := ((unhide HL).below (unhide HU _ ((unhide HB1).trans (hw.below.mono (by have := unhide HS2; omega))))).cells; clear hw)
      | (go_at_call 60; refine (wnRaw (unhide HW) o.key (unhide HFL) (unhide HKS)).mono ?_; rintro e W6 ⟨rfl, r6, hw⟩; clear HW c0 c1 c2; have HW := hide hw; replace HX1 := hide (box_below (unhide HX1) hw.below); clear hw)
      | (go_at_call 61; refine (wnTold (unhide HW)).mono ?_; rintro e W6b ⟨rfl, rfl⟩)
      | ((with_reducible refine wpList_store_ce (by rfl) (.tmp 3) (.tmp 23) (by rfl) N ⟨(W.fixB p 2 ++ o.key.data.toList).toArray⟩ b (by with_unfolding_all rfl) (by with_unfolding_all rfl) _ _ (unhide HX1) ?_); intro W7 HX7 HE7; simp only [Act.put])
      | fail)
    refine bodyPost_ret (results_cell_tmp rfl _ _ N 40 #[.string ⟨(W.fixB p 2 ++ o.key.data.toList).toArray⟩, .string b] (0, 0) _ rfl (unhide HX7) ceUnd rfl ceInfo) rfl ?_
    exact ⟨_, rfl, rfl, by rw [unhide HE7]; exact belowRow ((unhide HB1).trans ((unhide HW).below.mono (by have := unhide HS2; omega))) (Nat.le_refl _) _⟩
set_option maxRecDepth 100000 in
set_option maxHeartbeats 2000000 in
theorem oPack {u : World} {o : Ot} {v : Sv} {n m : Nat} (h : Sx u o.st v n m) (x z : ByteArray) (r : Int) (hx : packV o = (x, z, r)) : Calls Try.prog 28 #[obV o.key v n m] u fun e u' => e = .returned (.tuple #[.agg #[.string x, .string z], .int .i64 r]) ∧ Below u.heap.size u u' := by
  obtain ⟨N, hN⟩ : ∃ N, N = u.heap.size := ⟨_, rfl⟩
  have HN := hide hN
  have HU : Hid (∀ W : World, Below N u W → Below u.heap.size u W) := fun W hW => by rw [← unhide HN]; exact hW
  have HM : Hid (∀ W, Below N u W → W.heap[N]? = some (obRow o.key v n m) → Calls Try.prog 55 #[obV o.key v n m, .func (.func 56) #[] #[.pointer (some ⟨N, 0, none⟩)]] W fun e u' => e = .returned (.tuple #[.agg #[.string x, .string z], .int .i64 r]) ∧ Below W.heap.size W u') := fun W hW hR => by
    by_cases hc : ckE o = 0
    · refine oMayC (h.below (unhide HU _ hW)) _ _ (ent_lit _ (by kernel_rfl)) _ _ _ (fun _ V hV => ?_) (fun hn => absurd hc hn)
      have := oPack1 (g := N) (v := v) (n := n) (m := m) ⟨(h.below (unhide HU _ hW)).below hV, box_below hR hV⟩ hc
      rw [hx] at this
      exact this
    · rw [show packV o = (eB, eB, ckE o) by unfold packV; rw [if_neg hc]] at hx
      cases hx
      exact oMayC (h.below (unhide HU _ hW)) _ _ (ent_lit _ (by kernel_rfl)) _ _ _ (fun hn => absurd hn hc) (fun _ => ⟨rfl, rfl, rfl⟩)
  rw [← hN]
  clear hN h hx
  go_enter Try.func28, Try.ntmps28
  go_wp2_with (first
    | ((with_reducible refine wpList_box_ob (by rfl) (.tmp 0) (by rfl) (some 1) (by rfl) N (unhide HN) o.key v n m (by with_unfolding_all rfl) ?_); intro W1 HX1 HB1 HS1; simp only [Act.put, List.setIfInBounds_toArray, List.set_cons_zero, List.set_cons_succ])
    | ((with_reducible refine wpList_alloc_ce (by rfl) (by rfl) (some 2) (by rfl) (N + 1) (unhide HS1).symm ?_); intro W2 HX2 HB2 HS2; simp only [Act.put, List.setIfInBounds_toArray, List.set_cons_zero, List.set_cons_succ]; replace HX1 := hide (((unhide HB2).block N (Nat.lt_succ_self _)).trans (unhide HX1)); replace HB1 : Hid (Below N u W2) := (unhide HB1).trans ((unhide HB2).mono (Nat.le_succ _)); obtain ⟨c0, c1, c2⟩ := ob_cells (unhide HX1))
    | (go_at_call 55; refine (unhide HM W2 (unhide HB1) (unhide HX1)).mono ?_; rintro e W3 ⟨rfl, hb⟩; replace HX2 := hide (box_below (unhide HX2) hb); replace HB1 : Hid (Below N u W3) := (unhide HB1).trans (hb.mono (by rw [unhide HS2]; omega)); clear hb)
    | ((with_reducible refine wpList_store_ce (by rfl) (.tmp 2) (.tmp 7) (by rfl) (N + 1) x z (by with_unfolding_all rfl) (by with_unfolding_all rfl) _ _ (unhide HX2) ?_); intro W7 HX7 HE7; simp only [Act.put])
    | fail)
  refine bodyPost_ret (results_cell_tmp rfl _ _ (N + 1) 40 #[.string x, .string z] (0, 0) _ rfl (unhide HX7) ceUnd rfl ceInfo) rfl ?_
  exact ⟨rfl, by rw [unhide HE7]; exact belowRow (unhide HB1) (by omega) _⟩
theorem toList_inj {a b : ByteArray} (h : (a.toList == b.toList) = true) : a = b := ba_list (by simpa using h)
set_option maxRecDepth 100000 in
set_option maxHeartbeats 4000000 in
theorem oUnpack (k z : ByteArray) (hz : z.size ≤ 140737488355328) (u : World) (J : Ot) (r : Int) (hJ : unpV k z = (J, r)) : Calls Try.prog 19 #[.agg #[.string k, .string z]] u fun e u' => ∃ x a b, e = .returned (.tuple #[obV J.key x a b, .int .i64 r]) ∧ a = J.st.seen.length ∧ b = J.st.sibs.length ∧ OwnT u' u.heap.size J.st x ∧ Below u.heap.size u u' := by
  have hmix : Try.prog.follows .mixedOrders = true := by kernel_rfl
  obtain ⟨N, hN⟩ : ∃ N, N = u.heap.size := ⟨_, rfl⟩
  have HN := hide hN
  have HU : Hid (∀ W : World, Below N u W → Below u.heap.size u W) := fun W hW => by rw [← unhide HN]; exact hW
  rw [← hN]
  clear hN
  by_cases h1 : 2 ≤ k.size
  · have hlt : ¬ (k.size : Int) < 2 := by omega
    have hle : (2 : Int) ≤ (k.size : Int) := by omega
    rcases decT_cases z with ⟨T, hT, hTo, hTf, hTz⟩ | hT
    · have HD := hide (fun W => dDecode z W hz T 0 hT)
      have HTO := hide hTo
      have HTF := hide hTf
      have hu : unpO k z = ⟨k.extract 2 k.size, T⟩ := by unfold unpO; rw [hT]
      obtain ⟨ky, hky⟩ : ∃ ky, k.extract 2 k.size = ky := ⟨_, rfl⟩
      have HKY := hide hky
      rw [hky] at hu
      obtain ⟨⟨pk, pz, pr⟩, hpk⟩ : ∃ p, p = packV ⟨ky, T⟩ := ⟨_, rfl⟩
      have HPK := hide hpk.symm
      by_cases hg : (pk, pz, pr) = (k, z, 0)
      · have hJ2 : unpV k z = (⟨ky, T⟩, 0) := by unfold unpV; rw [if_pos ⟨h1, by rw [hT], by rw [hu, ← hpk, hg]⟩, hu]
        rw [hJ2] at hJ
        cases hJ
        cases hg
        have hne : ∀ W : World, (binOp .neq 40 (.agg #[.string k, .string z]) (.agg #[.string k, .string z])).run Try.prog W = .ok (.bool false) W := fun W => by rw [neqCl]; simp
        clear hT hTo hTf hTz hu hpk hky hJ2 h1 hz
        go_enter Try.func19, Try.ntmps19
        go_upto_region 6 with (first
          | ((with_reducible refine wpList_box_ce (by rfl) (.tmp 0) (by rfl) (some 1) (by rfl) N (unhide HN) k z (by with_unfolding_all rfl) ?_); intro W1 HX1 HB1 HS1; simp only [Act.put, List.setIfInBounds_toArray, List.set_cons_zero, List.set_cons_succ])
          | ((with_reducible refine wpList_alloc_ob (by rfl) (by rfl) (some 2) (by rfl) (N + 1) (unhide HS1).symm ?_); intro W2 HX2 HB2 HS2; simp only [Act.put, List.setIfInBounds_toArray, List.set_cons_zero, List.set_cons_succ]; replace HX1 : Hid (W2.heap[N]? = some (ceRow k z)) := ((unhide HB2).block N (Nat.lt_succ_self _)).trans (unhide HX1); have HBU : Hid (Below N u W2) := (unhide HB1).trans ((unhide HB2).mono (Nat.le_succ _)); clear HB1 HB2 HS1; obtain ⟨c0, c1⟩ := ce_cells (unhide HX1))
          | (go_at_call 44; refine (unhide HD W2).mono ?_; rintro e W3 ⟨x, a, b, rfl, h1, h2, h3, h4⟩; clear c0 c1; have HE1 := hide h1; have HE2 := hide h2; have HO3 := hide h3; have HL3 := hide h4; replace HX1 := hide (box_below (unhide HX1) h4); replace HX2 := hide (box_below (unhide HX2) h4); replace HBU : Hid (Below N u W3) := (unhide HBU).trans (h4.mono (by rw [unhide HS2]; omega)); have HS3 : Hid (N + 1 + 1 ≤ W2.heap.size ∧ N + 1 + 1 ≤ W3.heap.size) := (by have := h4.size; rw [unhide HS2] at this ⊢; exact ⟨Nat.le_refl _, this⟩); clear h1 h2 h3 h4; obtain ⟨K1, hK1⟩ : ∃ K1, K1 = W3.heap.size := ⟨_, rfl⟩; have HK1 := hide hK1; clear hK1)
          | ((with_reducible refine wpList_alloc_state (by rfl) (by rfl) (some 4) (by rfl) K1 (unhide HK1) ?_); intro W4 HX4 HB4 HS4; simp only [Act.put, List.setIfInBounds_toArray, List.set_cons_zero, List.set_cons_succ])
          | ((with_reducible refine wpList_store_state (by rfl) (.tmp 4) (.tmp 18) (by rfl) K1 x a b (by with_unfolding_all rfl) (by with_unfolding_all rfl) Sv.none 0 0 (unhide HX4) ?_); intro W5 HX5 HE5; simp only [Act.put]; have hb5 : Below W3.heap.size W3 W5 := (by rw [unhide HE5, ← unhide HK1]; exact belowRow (unhide HB4) (Nat.le_refl _) _); replace HX1 := hide (box_below (unhide HX1) hb5); replace HX2 := hide (box_below (unhide HX2) hb5); replace HO3 := hide ((unhide HO3).below hb5); replace HBU : Hid (Below N u W5) := (unhide HBU).trans (hb5.mono (by have := (unhide HS3).2; omega)); have HS5 : Hid (K1 + 1 = W5.heap.size) := (by rw [unhide HE5, size_setRow]; exact (unhide HS4).symm); clear hb5 HX4 HB4 HS4 HE5)
          | fail)
        go_wp2_with fail
        refine wp_region_last (fun V => Below W5.heap.size W5 V) 6 hmix (belowDrew (Below.refl _ _)) fun hS => ?_
        generalize W5.drew = Z0 at hS ⊢
        refine wpAnyL_take 0 23 (.pointer (some ⟨N, 0, none⟩)) [] rfl rfl (by kernel_rfl) (by kernel_rfl) (by kernel_rfl) (by kernel_rfl) (by kernel_rfl) (fun _ _ _ h => h) (by rfl) (fun _ _ => by go_simp) hS ?_
        simp only [Act.put, List.setIfInBounds_toArray, List.set_cons_zero, List.set_cons_succ]
        refine wpAnyL_take 1 24 (.string k) [] rfl rfl (by kernel_rfl) (by kernel_rfl) (by kernel_rfl) (by kernel_rfl) (by kernel_rfl) (fun _ _ _ h => h) (by rfl) (fun V hV => by obtain ⟨c0, c1⟩ := ce_cells (box_below (unhide HX1) hV); go_simp) hS ?_
        simp only [Act.put, List.setIfInBounds_toArray, List.set_cons_zero, List.set_cons_succ]
        refine wpAnyL_take 2 25 (.string ky) [] rfl rfl (by kernel_rfl) (by kernel_rfl) (by kernel_rfl) (by kernel_rfl) (by kernel_rfl) (fun _ _ _ h => h) (by rfl) (fun _ _ => by rw [← unhide HKY]; go_simp) hS ?_
        simp only [Act.put, List.setIfInBounds_toArray, List.set_cons_zero, List.set_cons_succ]
        refine wpAnyL_take 3 26 (x.v a b) [] rfl rfl (by kernel_rfl) (by kernel_rfl) (by kernel_rfl) (by kernel_rfl) (by kernel_rfl) (fun _ _ _ h => h) (by rfl) (fun V hV => by obtain ⟨c0, c1⟩ := st_cells (box_below (unhide HX5) hV); simp only [Sv.v]; go_simp) hS ?_
        simp only [Act.put, List.setIfInBounds_toArray, List.set_cons_zero, List.set_cons_succ]
        refine wpAnyL_take 4 27 (obV ky x a b) [] rfl rfl (by kernel_rfl) (by kernel_rfl) (by kernel_rfl) (by kernel_rfl) (by kernel_rfl) (fun _ _ _ h => h) (by rfl) (fun _ _ => by simp only [obV, Sv.v]; go_simp) hS ?_
        simp only [Act.put, List.setIfInBounds_toArray, List.set_cons_zero, List.set_cons_succ]
        refine wpAnyL_one (i := 5) (by kernel_rfl) rfl (by rfl) fun K hK => ?_
        refine wp_alloc_ob (by rfl) (some 6) (by rfl) ?_
        obtain ⟨Z1, hZ1⟩ : ∃ Z, Z = Z0.alloc (.cells #[.string ⟨#[]⟩, .slice none 0 0, .slice none 0 0] 33) := ⟨_, rfl⟩
        obtain ⟨K2, hK2⟩ : ∃ K, K = Z0.heap.size := ⟨_, rfl⟩
        have HR1 : Hid (Z1.heap[K2]? = some (obRow ⟨#[]⟩ Sv.none 0 0)) := by rw [hZ1, hK2]; exact heap_alloc_new _ _
        have HL1 : Hid (Below Z0.heap.size Z0 Z1) := by rw [hZ1]; exact (Below.refl _ _).alloc (Nat.le_refl _) _
        have HQ1 : Hid (Z1.heap.size = K2 + 1) := by rw [hZ1, hK2, World.size_alloc]; exact rfl
        have HK2 := hide hK2
        rw [← hZ1, ← hK2]
        clear hZ1 hK2
        have HS1 : Hid (Below W5.heap.size W5 Z1) := hS.trans ((unhide HL1).mono hS.size)
        refine hK _ _ (fun _ => unhide HS1) ?_
        clear hK K
        simp only [Act.put, List.setIfInBounds_toArray, List.set_cons_zero, List.set_cons_succ]
        refine wpAnyL_one (i := 6) (by kernel_rfl) rfl (by rfl) fun K hK => ?_
        refine wp_store_ob (.tmp 6) (.tmp 27) (by rfl) (by rfl) K2 ky x a b (by with_unfolding_all rfl) (by with_unfolding_all rfl) _ _ _ _ (unhide HR1) ?_
        obtain ⟨Z2, hZ2⟩ : ∃ Z, Z = Z1.setRow K2 #[.string ky, .slice x.sa a x.sc, .slice x.ba b x.bc] := ⟨_, rfl⟩
        have HR2 : Hid (Z2.heap[K2]? = some (obRow ky x a b)) := by rw [hZ2]; exact heapRow_same (unhide HR1) _
        have hb6 : Below W5.heap.size W5 Z2 := by rw [hZ2]; exact belowRow (unhide HS1) (by rw [unhide HK2]; exact hS.size) _
        have HQ2 : Hid (Z2.heap.size = K2 + 1) := by rw [hZ2, size_setRow]; exact unhide HQ1
        rw [← hZ2]
        clear hZ2
        refine hK _ _ (fun h => absurd rfl h) ?_
        clear hK K
        replace HX1 := hide (box_below (unhide HX1) hb6)
        replace HX2 := hide (box_below (unhide HX2) hb6)
        replace HO3 := hide ((unhide HO3).below hb6)
        replace HBU : Hid (Below N u Z2) := (unhide HBU).trans (hb6.mono (by have h1 := (unhide HS3).2; have h2 := unhide HS5; have h3 := unhide HK1; omega))
        have HLX : Hid (Lo Z2 K2 ⟨ky, T⟩ x a b) := ⟨⟨(unhide HO3).at (unhide HTF) (unhide HTO), unhide HE1, unhide HE2⟩, unhide HR2⟩
        have HNZ : Hid (N + 1 + 1 ≤ Z2.heap.size) := by
          have h1 := (unhide HS3).2
          have h2 := unhide HS5
          have h3 := unhide HK1
          have h4 := hb6.size
          show N + 1 + 1 ≤ Z2.heap.size
          omega
        clear hS HR1 HL1 HQ1 HK2 HS1 HR2 HX5 HS5 hb6
        skip
        refine wpAnyL_done (by kernel_rfl) ?_ _
        obtain ⟨c0, c1, c2⟩ := (unhide HLX).cells
        go_wp2_with (first
          | (go_at_call 28; refine (oPack (unhide HLX).toSx _ _ _ (unhide HPK)).mono ?_; rintro e Y1 ⟨rfl, hb⟩; clear c0 c1 c2; replace HX1 := hide (box_below (unhide HX1) hb); replace HX2 := hide (box_below (unhide HX2) hb); replace HO3 := hide ((unhide HO3).below hb); replace HLX := hide ((unhide HLX).below hb); replace HBU : Hid (Below N u Y1) := (unhide HBU).trans (hb.mono (by have := unhide HNZ; omega)); replace HNZ : Hid (N + 1 + 1 ≤ Y1.heap.size) := Nat.le_trans (unhide HNZ) hb.size; clear hb; obtain ⟨K3, hK3⟩ : ∃ K3, K3 = Y1.heap.size := ⟨_, rfl⟩; have HK3 := hide hK3; clear hK3)
          | ((with_reducible refine wpList_alloc_ce (by rfl) (by rfl) (some 7) (by rfl) K3 (unhide HK3) ?_); intro Y2 HY2 HB2 HSY2; simp only [Act.put, List.setIfInBounds_toArray, List.set_cons_zero, List.set_cons_succ])
          | ((with_reducible refine wpList_store_ce (by rfl) (.tmp 7) (.tmp 31) (by rfl) K3 k z (by with_unfolding_all rfl) (by with_unfolding_all rfl) _ _ (unhide HY2) ?_); intro Y3 HY3 HE3; simp only [Act.put]; have hb : Below Y1.heap.size Y1 Y3 := (by rw [unhide HE3, ← unhide HK3]; exact belowRow (unhide HB2) (Nat.le_refl _) _); replace HX1 := hide (box_below (unhide HX1) hb); replace HX2 := hide (box_below (unhide HX2) hb); replace HO3 := hide ((unhide HO3).below hb); replace HLX := hide ((unhide HLX).below hb); replace HBU : Hid (Below N u Y3) := (unhide HBU).trans (hb.mono (by have := unhide HNZ; omega)); clear hb HY2 HB2 HSY2 HE3 HK3; obtain ⟨c0, c1⟩ := ce_cells (unhide HX1); obtain ⟨d0, d1⟩ := ce_cells (unhide HY3); obtain ⟨e0, e1, e2⟩ := (unhide HLX).cells; replace e0 : Y3.cell? ⟨K2, 0, none⟩ = some (.string ky) := e0)
          | ((with_reducible refine wpList_store_ob (by rfl) (.tmp 2) (.tmp 41) (by rfl) (N + 1) ky x a b (by with_unfolding_all rfl) (by with_unfolding_all rfl) _ _ _ _ (unhide HX2) ?_); intro X7 HX7 HE7; simp only [Act.put])
          | fail)
        refine bodyPost_ret (results_cell_tmp rfl _ _ (N + 1) 33 #[.string ky, .slice x.sa a x.sc, .slice x.ba b x.bc] (0, 0) _ rfl (unhide HX7) obUnd rfl obInfo) rfl ?_
        refine ⟨x, a, b, rfl, unhide HE1, unhide HE2, ?_, by rw [unhide HE7]; exact belowRow (unhide HBU) (by omega) _⟩
        rw [unhide HE7]
        refine ((unhide HO3).down (by have := (unhide HS3).1; omega)).keep fun g hg => heapRow_other _ _ _ _ ?_
        have h1 := ((unhide HO3).lt hg).1
        have h2 := (unhide HS3).1
        omega
      · have hJ2 : unpV k z = (Ot.none, 4) := by unfold unpV; rw [if_neg]; rintro ⟨-, -, h3⟩; rw [hu, ← hpk] at h3; exact hg h3
        rw [hJ2] at hJ
        cases hJ
        clear hT hTo hTf hTz hu hpk hky hJ2 h1 hz
        by_cases hr : pr = 0
        · subst hr
          have hne : ∀ W : World, (binOp .neq 40 (.agg #[.string pk, .string pz]) (.agg #[.string k, .string z])).run Try.prog W = .ok (.bool true) W := fun W => by
            rw [neqCl]
            have : ((pk.toList == k.toList) && (pz.toList == z.toList)) = false := by
              rw [← Bool.not_eq_true, Bool.and_eq_true]
              rintro ⟨q1, q2⟩
              exact hg (by rw [toList_inj q1, toList_inj q2])
            rw [this]; rfl
          clear hg
          go_enter Try.func19, Try.ntmps19
          go_upto_region 6 with (first
            | ((with_reducible refine wpList_box_ce (by rfl) (.tmp 0) (by rfl) (some 1) (by rfl) N (unhide HN) k z (by with_unfolding_all rfl) ?_); intro W1 HX1 HB1 HS1; simp only [Act.put, List.setIfInBounds_toArray, List.set_cons_zero, List.set_cons_succ])
            | ((with_reducible refine wpList_alloc_ob (by rfl) (by rfl) (some 2) (by rfl) (N + 1) (unhide HS1).symm ?_); intro W2 HX2 HB2 HS2; simp only [Act.put, List.setIfInBounds_toArray, List.set_cons_zero, List.set_cons_succ]; replace HX1 : Hid (W2.heap[N]? = some (ceRow k z)) := ((unhide HB2).block N (Nat.lt_succ_self _)).trans (unhide HX1); have HBU : Hid (Below N u W2) := (unhide HB1).trans ((unhide HB2).mono (Nat.le_succ _)); clear HB1 HB2 HS1; obtain ⟨c0, c1⟩ := ce_cells (unhide HX1))
            | (go_at_call 44; refine (unhide HD W2).mono ?_; rintro e W3 ⟨x, a, b, rfl, h1, h2, h3, h4⟩; clear c0 c1; have HE1 := hide h1; have HE2 := hide h2; have HO3 := hide h3; have HL3 := hide h4; replace HX1 := hide (box_below (unhide HX1) h4); replace HX2 := hide (box_below (unhide HX2) h4); replace HBU : Hid (Below N u W3) := (unhide HBU).trans (h4.mono (by rw [unhide HS2]; omega)); have HS3 : Hid (N + 1 + 1 ≤ W2.heap.size ∧ N + 1 + 1 ≤ W3.heap.size) := (by have := h4.size; rw [unhide HS2] at this ⊢; exact ⟨Nat.le_refl _, this⟩); clear h1 h2 h3 h4; obtain ⟨K1, hK1⟩ : ∃ K1, K1 = W3.heap.size := ⟨_, rfl⟩; have HK1 := hide hK1; clear hK1)
            | ((with_reducible refine wpList_alloc_state (by rfl) (by rfl) (some 4) (by rfl) K1 (unhide HK1) ?_); intro W4 HX4 HB4 HS4; simp only [Act.put, List.setIfInBounds_toArray, List.set_cons_zero, List.set_cons_succ])
            | ((with_reducible refine wpList_store_state (by rfl) (.tmp 4) (.tmp 18) (by rfl) K1 x a b (by with_unfolding_all rfl) (by with_unfolding_all rfl) Sv.none 0 0 (unhide HX4) ?_); intro W5 HX5 HE5; simp only [Act.put]; have hb5 : Below W3.heap.size W3 W5 := (by rw [unhide HE5, ← unhide HK1]; exact belowRow (unhide HB4) (Nat.le_refl _) _); replace HX1 := hide (box_below (unhide HX1) hb5); replace HX2 := hide (box_below (unhide HX2) hb5); replace HO3 := hide ((unhide HO3).below hb5); replace HBU : Hid (Below N u W5) := (unhide HBU).trans (hb5.mono (by have := (unhide HS3).2; omega)); have HS5 : Hid (K1 + 1 = W5.heap.size) := (by rw [unhide HE5, size_setRow]; exact (unhide HS4).symm); clear hb5 HX4 HB4 HS4 HE5)
            | fail)
          go_wp2_with fail
          refine wp_region_last (fun V => Below W5.heap.size W5 V) 6 hmix (belowDrew (Below.refl _ _)) fun hS => ?_
          generalize W5.drew = Z0 at hS ⊢
          refine wpAnyL_take 0 23 (.pointer (some ⟨N, 0, none⟩)) [] rfl rfl (by kernel_rfl) (by kernel_rfl) (by kernel_rfl) (by kernel_rfl) (by kernel_rfl) (fun _ _ _ h => h) (by rfl) (fun _ _ => by go_simp) hS ?_
          simp only [Act.put, List.setIfInBounds_toArray, List.set_cons_zero, List.set_cons_succ]
          refine wpAnyL_take 1 24 (.string k) [] rfl rfl (by kernel_rfl) (by kernel_rfl) (by kernel_rfl) (by kernel_rfl) (by kernel_rfl) (fun _ _ _ h => h) (by rfl) (fun V hV => by obtain ⟨c0, c1⟩ := ce_cells (box_below (unhide HX1) hV); go_simp) hS ?_
          simp only [Act.put, List.setIfInBounds_toArray, List.set_cons_zero, List.set_cons_succ]
          refine wpAnyL_take 2 25 (.string ky) [] rfl rfl (by kernel_rfl) (by kernel_rfl) (by kernel_rfl) (by kernel_rfl) (by kernel_rfl) (fun _ _ _ h => h) (by rfl) (fun _ _ => by rw [← unhide HKY]; go_simp) hS ?_
          simp only [Act.put, List.setIfInBounds_toArray, List.set_cons_zero, List.set_cons_succ]
          refine wpAnyL_take 3 26 (x.v a b) [] rfl rfl (by kernel_rfl) (by kernel_rfl) (by kernel_rfl) (by kernel_rfl) (by kernel_rfl) (fun _ _ _ h => h) (by rfl) (fun V hV => by obtain ⟨c0, c1⟩ := st_cells (box_below (unhide HX5) hV); simp only [Sv.v]; go_simp) hS ?_
          simp only [Act.put, List.setIfInBounds_toArray, List.set_cons_zero, List.set_cons_succ]
          refine wpAnyL_take 4 27 (obV ky x a b) [] rfl rfl (by kernel_rfl) (by kernel_rfl) (by kernel_rfl) (by kernel_rfl) (by kernel_rfl) (fun _ _ _ h => h) (by rfl) (fun _ _ => by simp only [obV, Sv.v]; go_simp) hS ?_
          simp only [Act.put, List.setIfInBounds_toArray, List.set_cons_zero, List.set_cons_succ]
          refine wpAnyL_one (i := 5) (by kernel_rfl) rfl (by rfl) fun K hK => ?_
          refine wp_alloc_ob (by rfl) (some 6) (by rfl) ?_
          obtain ⟨Z1, hZ1⟩ : ∃ Z, Z = Z0.alloc (.cells #[.string ⟨#[]⟩, .slice none 0 0, .slice none 0 0] 33) := ⟨_, rfl⟩
          obtain ⟨K2, hK2⟩ : ∃ K, K = Z0.heap.size := ⟨_, rfl⟩
          have HR1 : Hid (Z1.heap[K2]? = some (obRow ⟨#[]⟩ Sv.none 0 0)) := by rw [hZ1, hK2]; exact heap_alloc_new _ _
          have HL1 : Hid (Below Z0.heap.size Z0 Z1) := by rw [hZ1]; exact (Below.refl _ _).alloc (Nat.le_refl _) _
          have HQ1 : Hid (Z1.heap.size = K2 + 1) := by rw [hZ1, hK2, World.size_alloc]; exact rfl
          have HK2 := hide hK2
          rw [← hZ1, ← hK2]
          clear hZ1 hK2
          have HS1 : Hid (Below W5.heap.size W5 Z1) := hS.trans ((unhide HL1).mono hS.size)
          refine hK _ _ (fun _ => unhide HS1) ?_
          clear hK K
          simp only [Act.put, List.setIfInBounds_toArray, List.set_cons_zero, List.set_cons_succ]
          refine wpAnyL_one (i := 6) (by kernel_rfl) rfl (by rfl) fun K hK => ?_
          refine wp_store_ob (.tmp 6) (.tmp 27) (by rfl) (by rfl) K2 ky x a b (by with_unfolding_all rfl) (by with_unfolding_all rfl) _ _ _ _ (unhide HR1) ?_
          obtain ⟨Z2, hZ2⟩ : ∃ Z, Z = Z1.setRow K2 #[.string ky, .slice x.sa a x.sc, .slice x.ba b x.bc] := ⟨_, rfl⟩
          have HR2 : Hid (Z2.heap[K2]? = some (obRow ky x a b)) := by rw [hZ2]; exact heapRow_same (unhide HR1) _
          have hb6 : Below W5.heap.size W5 Z2 := by rw [hZ2]; exact belowRow (unhide HS1) (by rw [unhide HK2]; exact hS.size) _
          have HQ2 : Hid (Z2.heap.size = K2 + 1) := by rw [hZ2, size_setRow]; exact unhide HQ1
          rw [← hZ2]
          clear hZ2
          refine hK _ _ (fun h => absurd rfl h) ?_
          clear hK K
          replace HX1 := hide (box_below (unhide HX1) hb6)
          replace HX2 := hide (box_below (unhide HX2) hb6)
          replace HO3 := hide ((unhide HO3).below hb6)
          replace HBU : Hid (Below N u Z2) := (unhide HBU).trans (hb6.mono (by have h1 := (unhide HS3).2; have h2 := unhide HS5; have h3 := unhide HK1; omega))
          have HLX : Hid (Lo Z2 K2 ⟨ky, T⟩ x a b) := ⟨⟨(unhide HO3).at (unhide HTF) (unhide HTO), unhide HE1, unhide HE2⟩, unhide HR2⟩
          have HNZ : Hid (N + 1 + 1 ≤ Z2.heap.size) := by
            have h1 := (unhide HS3).2
            have h2 := unhide HS5
            have h3 := unhide HK1
            have h4 := hb6.size
            show N + 1 + 1 ≤ Z2.heap.size
            omega
          clear hS HR1 HL1 HQ1 HK2 HS1 HR2 HX5 HS5 hb6
          skip
          refine wpAnyL_done (by kernel_rfl) ?_ _
          obtain ⟨c0, c1, c2⟩ := (unhide HLX).cells
          go_wp2_with (first
            | (go_at_call 28; refine (oPack (unhide HLX).toSx _ _ _ (unhide HPK)).mono ?_; rintro e Y1 ⟨rfl, hb⟩; clear c0 c1 c2; replace HX1 := hide (box_below (unhide HX1) hb); replace HX2 := hide (box_below (unhide HX2) hb); replace HO3 := hide ((unhide HO3).below hb); replace HLX := hide ((unhide HLX).below hb); replace HBU : Hid (Below N u Y1) := (unhide HBU).trans (hb.mono (by have := unhide HNZ; omega)); replace HNZ : Hid (N + 1 + 1 ≤ Y1.heap.size) := Nat.le_trans (unhide HNZ) hb.size; clear hb; obtain ⟨K3, hK3⟩ : ∃ K3, K3 = Y1.heap.size := ⟨_, rfl⟩; have HK3 := hide hK3; clear hK3)
            | ((with_reducible refine wpList_alloc_ce (by rfl) (by rfl) (some 7) (by rfl) K3 (unhide HK3) ?_); intro Y2 HY2 HB2 HSY2; simp only [Act.put, List.setIfInBounds_toArray, List.set_cons_zero, List.set_cons_succ])
            | ((with_reducible refine wpList_store_ce (by rfl) (.tmp 7) (.tmp 31) (by rfl) K3 pk pz (by with_unfolding_all rfl) (by with_unfolding_all rfl) _ _ (unhide HY2) ?_); intro Y3 HY3 HE3; simp only [Act.put]; have hb : Below Y1.heap.size Y1 Y3 := (by rw [unhide HE3, ← unhide HK3]; exact belowRow (unhide HB2) (Nat.le_refl _) _); replace HX1 := hide (box_below (unhide HX1) hb); replace HX2 := hide (box_below (unhide HX2) hb); replace HO3 := hide ((unhide HO3).below hb); replace HLX := hide ((unhide HLX).below hb); replace HBU : Hid (Below N u Y3) := (unhide HBU).trans (hb.mono (by have := unhide HNZ; omega)); clear hb HY2 HB2 HSY2 HE3 HK3; obtain ⟨c0, c1⟩ := ce_cells (unhide HX1); obtain ⟨d0, d1⟩ := ce_cells (unhide HY3); obtain ⟨e0, e1, e2⟩ := (unhide HLX).cells; replace e0 : Y3.cell? ⟨K2, 0, none⟩ = some (.string ky) := e0)
            | ((with_reducible refine wpList_store_ob (by rfl) (.tmp 2) (.tmp 40) (by rfl) (N + 1) ⟨#[]⟩ Sv.none 0 0 (by with_unfolding_all rfl) (by with_unfolding_all rfl) _ _ _ _ (unhide HX2) ?_); intro X7 HX7 HE7; simp only [Act.put])
            | fail)
          refine bodyPost_ret (results_cell_tmp rfl _ _ (N + 1) 33 #[.string ⟨#[]⟩, .slice none 0 0, .slice none 0 0] (0, 0) _ rfl (unhide HX7) obUnd rfl obInfo) rfl ?_
          exact ⟨Sv.none, 0, 0, rfl, rfl, rfl, OwnT.none _ _, by rw [unhide HE7]; exact belowRow (unhide HBU) (by omega) _⟩
        · have hr' : (pr != 0) = true := by simpa using hr
          clear hg
          go_enter Try.func19, Try.ntmps19
          go_upto_region 6 with (first
            | ((with_reducible refine wpList_box_ce (by rfl) (.tmp 0) (by rfl) (some 1) (by rfl) N (unhide HN) k z (by with_unfolding_all rfl) ?_); intro W1 HX1 HB1 HS1; simp only [Act.put, List.setIfInBounds_toArray, List.set_cons_zero, List.set_cons_succ])
            | ((with_reducible refine wpList_alloc_ob (by rfl) (by rfl) (some 2) (by rfl) (N + 1) (unhide HS1).symm ?_); intro W2 HX2 HB2 HS2; simp only [Act.put, List.setIfInBounds_toArray, List.set_cons_zero, List.set_cons_succ]; replace HX1 : Hid (W2.heap[N]? = some (ceRow k z)) := ((unhide HB2).block N (Nat.lt_succ_self _)).trans (unhide HX1); have HBU : Hid (Below N u W2) := (unhide HB1).trans ((unhide HB2).mono (Nat.le_succ _)); clear HB1 HB2 HS1; obtain ⟨c0, c1⟩ := ce_cells (unhide HX1))
            | (go_at_call 44; refine (unhide HD W2).mono ?_; rintro e W3 ⟨x, a, b, rfl, h1, h2, h3, h4⟩; clear c0 c1; have HE1 := hide h1; have HE2 := hide h2; have HO3 := hide h3; have HL3 := hide h4; replace HX1 := hide (box_below (unhide HX1) h4); replace HX2 := hide (box_below (unhide HX2) h4); replace HBU : Hid (Below N u W3) := (unhide HBU).trans (h4.mono (by rw [unhide HS2]; omega)); have HS3 : Hid (N + 1 + 1 ≤ W2.heap.size ∧ N + 1 + 1 ≤ W3.heap.size) := (by have := h4.size; rw [unhide HS2] at this ⊢; exact ⟨Nat.le_refl _, this⟩); clear h1 h2 h3 h4; obtain ⟨K1, hK1⟩ : ∃ K1, K1 = W3.heap.size := ⟨_, rfl⟩; have HK1 := hide hK1; clear hK1)
            | ((with_reducible refine wpList_alloc_state (by rfl) (by rfl) (some 4) (by rfl) K1 (unhide HK1) ?_); intro W4 HX4 HB4 HS4; simp only [Act.put, List.setIfInBounds_toArray, List.set_cons_zero, List.set_cons_succ])
            | ((with_reducible refine wpList_store_state (by rfl) (.tmp 4) (.tmp 18) (by rfl) K1 x a b (by with_unfolding_all rfl) (by with_unfolding_all rfl) Sv.none 0 0 (unhide HX4) ?_); intro W5 HX5 HE5; simp only [Act.put]; have hb5 : Below W3.heap.size W3 W5 := (by rw [unhide HE5, ← unhide HK1]; exact belowRow (unhide HB4) (Nat.le_refl _) _); replace HX1 := hide (box_below (unhide HX1) hb5); replace HX2 := hide (box_below (unhide HX2) hb5); replace HO3 := hide ((unhide HO3).below hb5); replace HBU : Hid (Below N u W5) := (unhide HBU).trans (hb5.mono (by have := (unhide HS3).2; omega)); have HS5 : Hid (K1 + 1 = W5.heap.size) := (by rw [unhide HE5, size_setRow]; exact (unhide HS4).symm); clear hb5 HX4 HB4 HS4 HE5)
            | fail)
          go_wp2_with fail
          refine wp_region_last (fun V => Below W5.heap.size W5 V) 6 hmix (belowDrew (Below.refl _ _)) fun hS => ?_
          generalize W5.drew = Z0 at hS ⊢
          refine wpAnyL_take 0 23 (.pointer (some ⟨N, 0, none⟩)) [] rfl rfl (by kernel_rfl) (by kernel_rfl) (by kernel_rfl) (by kernel_rfl) (by kernel_rfl) (fun _ _ _ h => h) (by rfl) (fun _ _ => by go_simp) hS ?_
          simp only [Act.put, List.setIfInBounds_toArray, List.set_cons_zero, List.set_cons_succ]
          refine wpAnyL_take 1 24 (.string k) [] rfl rfl (by kernel_rfl) (by kernel_rfl) (by kernel_rfl) (by kernel_rfl) (by kernel_rfl) (fun _ _ _ h => h) (by rfl) (fun V hV => by obtain ⟨c0, c1⟩ := ce_cells (box_below (unhide HX1) hV); go_simp) hS ?_
          simp only [Act.put, List.setIfInBounds_toArray, List.set_cons_zero, List.set_cons_succ]
          refine wpAnyL_take 2 25 (.string ky) [] rfl rfl (by kernel_rfl) (by kernel_rfl) (by kernel_rfl) (by kernel_rfl) (by kernel_rfl) (fun _ _ _ h => h) (by rfl) (fun _ _ => by rw [← unhide HKY]; go_simp) hS ?_
          simp only [Act.put, List.setIfInBounds_toArray, List.set_cons_zero, List.set_cons_succ]
          refine wpAnyL_take 3 26 (x.v a b) [] rfl rfl (by kernel_rfl) (by kernel_rfl) (by kernel_rfl) (by kernel_rfl) (by kernel_rfl) (fun _ _ _ h => h) (by rfl) (fun V hV => by obtain ⟨c0, c1⟩ := st_cells (box_below (unhide HX5) hV); simp only [Sv.v]; go_simp) hS ?_
          simp only [Act.put, List.setIfInBounds_toArray, List.set_cons_zero, List.set_cons_succ]
          refine wpAnyL_take 4 27 (obV ky x a b) [] rfl rfl (by kernel_rfl) (by kernel_rfl) (by kernel_rfl) (by kernel_rfl) (by kernel_rfl) (fun _ _ _ h => h) (by rfl) (fun _ _ => by simp only [obV, Sv.v]; go_simp) hS ?_
          simp only [Act.put, List.setIfInBounds_toArray, List.set_cons_zero, List.set_cons_succ]
          refine wpAnyL_one (i := 5) (by kernel_rfl) rfl (by rfl) fun K hK => ?_
          refine wp_alloc_ob (by rfl) (some 6) (by rfl) ?_
          obtain ⟨Z1, hZ1⟩ : ∃ Z, Z = Z0.alloc (.cells #[.string ⟨#[]⟩, .slice none 0 0, .slice none 0 0] 33) := ⟨_, rfl⟩
          obtain ⟨K2, hK2⟩ : ∃ K, K = Z0.heap.size := ⟨_, rfl⟩
          have HR1 : Hid (Z1.heap[K2]? = some (obRow ⟨#[]⟩ Sv.none 0 0)) := by rw [hZ1, hK2]; exact heap_alloc_new _ _
          have HL1 : Hid (Below Z0.heap.size Z0 Z1) := by rw [hZ1]; exact (Below.refl _ _).alloc (Nat.le_refl _) _
          have HQ1 : Hid (Z1.heap.size = K2 + 1) := by rw [hZ1, hK2, World.size_alloc]; exact rfl
          have HK2 := hide hK2
          rw [← hZ1, ← hK2]
          clear hZ1 hK2
          have HS1 : Hid (Below W5.heap.size W5 Z1) := hS.trans ((unhide HL1).mono hS.size)
          refine hK _ _ (fun _ => unhide HS1) ?_
          clear hK K
          simp only [Act.put, List.setIfInBounds_toArray, List.set_cons_zero, List.set_cons_succ]
          refine wpAnyL_one (i := 6) (by kernel_rfl) rfl (by rfl) fun K hK => ?_
          refine wp_store_ob (.tmp 6) (.tmp 27) (by rfl) (by rfl) K2 ky x a b (by with_unfolding_all rfl) (by with_unfolding_all rfl) _ _ _ _ (unhide HR1) ?_
          obtain ⟨Z2, hZ2⟩ : ∃ Z, Z = Z1.setRow K2 #[.string ky, .slice x.sa a x.sc, .slice x.ba b x.bc] := ⟨_, rfl⟩
          have HR2 : Hid (Z2.heap[K2]? = some (obRow ky x a b)) := by rw [hZ2]; exact heapRow_same (unhide HR1) _
          have hb6 : Below W5.heap.size W5 Z2 := by rw [hZ2]; exact belowRow (unhide HS1) (by rw [unhide HK2]; exact hS.size) _
          have HQ2 : Hid (Z2.heap.size = K2 + 1) := by rw [hZ2, size_setRow]; exact unhide HQ1
          rw [← hZ2]
          clear hZ2
          refine hK _ _ (fun h => absurd rfl h) ?_
          clear hK K
          replace HX1 := hide (box_below (unhide HX1) hb6)
          replace HX2 := hide (box_below (unhide HX2) hb6)
          replace HO3 := hide ((unhide HO3).below hb6)
          replace HBU : Hid (Below N u Z2) := (unhide HBU).trans (hb6.mono (by have h1 := (unhide HS3).2; have h2 := unhide HS5; have h3 := unhide HK1; omega))
          have HLX : Hid (Lo Z2 K2 ⟨ky, T⟩ x a b) := ⟨⟨(unhide HO3).at (unhide HTF) (unhide HTO), unhide HE1, unhide HE2⟩, unhide HR2⟩
          have HNZ : Hid (N + 1 + 1 ≤ Z2.heap.size) := by
            have h1 := (unhide HS3).2
            have h2 := unhide HS5
            have h3 := unhide HK1
            have h4 := hb6.size
            show N + 1 + 1 ≤ Z2.heap.size
            omega
          clear hS HR1 HL1 HQ1 HK2 HS1 HR2 HX5 HS5 hb6
          skip
          refine wpAnyL_done (by kernel_rfl) ?_ _
          obtain ⟨c0, c1, c2⟩ := (unhide HLX).cells
          go_wp2_with (first
            | (go_at_call 28; refine (oPack (unhide HLX).toSx _ _ _ (unhide HPK)).mono ?_; rintro e Y1 ⟨rfl, hb⟩; clear c0 c1 c2; replace HX1 := hide (box_below (unhide HX1) hb); replace HX2 := hide (box_below (unhide HX2) hb); replace HO3 := hide ((unhide HO3).below hb); replace HLX := hide ((unhide HLX).below hb); replace HBU : Hid (Below N u Y1) := (unhide HBU).trans (hb.mono (by have := unhide HNZ; omega)); replace HNZ : Hid (N + 1 + 1 ≤ Y1.heap.size) := Nat.le_trans (unhide HNZ) hb.size; clear hb; obtain ⟨K3, hK3⟩ : ∃ K3, K3 = Y1.heap.size := ⟨_, rfl⟩; have HK3 := hide hK3; clear hK3)
            | ((with_reducible refine wpList_alloc_ce (by rfl) (by rfl) (some 7) (by rfl) K3 (unhide HK3) ?_); intro Y2 HY2 HB2 HSY2; simp only [Act.put, List.setIfInBounds_toArray, List.set_cons_zero, List.set_cons_succ])
            | ((with_reducible refine wpList_store_ce (by rfl) (.tmp 7) (.tmp 31) (by rfl) K3 pk pz (by with_unfolding_all rfl) (by with_unfolding_all rfl) _ _ (unhide HY2) ?_); intro Y3 HY3 HE3; simp only [Act.put]; have hb : Below Y1.heap.size Y1 Y3 := (by rw [unhide HE3, ← unhide HK3]; exact belowRow (unhide HB2) (Nat.le_refl _) _); replace HX1 := hide (box_below (unhide HX1) hb); replace HX2 := hide (box_below (unhide HX2) hb); replace HO3 := hide ((unhide HO3).below hb); replace HLX := hide ((unhide HLX).below hb); replace HBU : Hid (Below N u Y3) := (unhide HBU).trans (hb.mono (by have := unhide HNZ; omega)); clear hb HY2 HB2 HSY2 HE3 HK3; obtain ⟨c0, c1⟩ := ce_cells (unhide HX1); obtain ⟨d0, d1⟩ := ce_cells (unhide HY3); obtain ⟨e0, e1, e2⟩ := (unhide HLX).cells; replace e0 : Y3.cell? ⟨K2, 0, none⟩ = some (.string ky) := e0)
            | ((with_reducible refine wpList_store_ob (by rfl) (.tmp 2) (.tmp 40) (by rfl) (N + 1) ⟨#[]⟩ Sv.none 0 0 (by with_unfolding_all rfl) (by with_unfolding_all rfl) _ _ _ _ (unhide HX2) ?_); intro X7 HX7 HE7; simp only [Act.put])
            | fail)
          refine bodyPost_ret (results_cell_tmp rfl _ _ (N + 1) 33 #[.string ⟨#[]⟩, .slice none 0 0, .slice none 0 0] (0, 0) _ rfl (unhide HX7) obUnd rfl obInfo) rfl ?_
          exact ⟨Sv.none, 0, 0, rfl, rfl, rfl, OwnT.none _ _, by rw [unhide HE7]; exact belowRow (unhide HBU) (by omega) _⟩
    · have HD := hide (fun W => dDecode z W hz St.none 110 hT)
      have hJ2 : unpV k z = (Ot.none, 4) := by unfold unpV; rw [if_neg]; rintro ⟨-, h3, -⟩; rw [hT] at h3; cases h3
      rw [hJ2] at hJ
      cases hJ
      clear hT hJ2 h1 hz
      go_enter Try.func19, Try.ntmps19
      go_wp2_with (first
        | ((with_reducible refine wpList_box_ce (by rfl) (.tmp 0) (by rfl) (some 1) (by rfl) N (unhide HN) k z (by with_unfolding_all rfl) ?_); intro W1 HX1 HB1 HS1; simp only [Act.put, List.setIfInBounds_toArray, List.set_cons_zero, List.set_cons_succ])
        | ((with_reducible refine wpList_alloc_ob (by rfl) (by rfl) (some 2) (by rfl) (N + 1) (unhide HS1).symm ?_); intro W2 HX2 HB2 HS2; simp only [Act.put, List.setIfInBounds_toArray, List.set_cons_zero, List.set_cons_succ]; replace HX1 : Hid (W2.heap[N]? = some (ceRow k z)) := ((unhide HB2).block N (Nat.lt_succ_self _)).trans (unhide HX1); have HBU : Hid (Below N u W2) := (unhide HB1).trans ((unhide HB2).mono (Nat.le_succ _)); clear HB1 HB2 HS1; obtain ⟨c0, c1⟩ := ce_cells (unhide HX1))
        | (go_at_call 44; refine (unhide HD W2).mono ?_; rintro e W3 ⟨x, a, b, rfl, h1, h2, h3, h4⟩; clear c0 c1; have HE1 := hide h1; have HE2 := hide h2; have HO3 := hide h3; have HL3 := hide h4; replace HX1 := hide (box_below (unhide HX1) h4); replace HX2 := hide (box_below (unhide HX2) h4); replace HBU : Hid (Below N u W3) := (unhide HBU).trans (h4.mono (by rw [unhide HS2]; omega)); have HS3 : Hid (N + 1 + 1 ≤ W2.heap.size ∧ N + 1 + 1 ≤ W3.heap.size) := (by have := h4.size; rw [unhide HS2] at this ⊢; exact ⟨Nat.le_refl _, this⟩); clear h1 h2 h3 h4; obtain ⟨K1, hK1⟩ : ∃ K1, K1 = W3.heap.size := ⟨_, rfl⟩; have HK1 := hide hK1; clear hK1)
        | ((with_reducible refine wpList_alloc_state (by rfl) (by rfl) (some 4) (by rfl) K1 (unhide HK1) ?_); intro W4 HX4 HB4 HS4; simp only [Act.put, List.setIfInBounds_toArray, List.set_cons_zero, List.set_cons_succ])
        | ((with_reducible refine wpList_store_state (by rfl) (.tmp 4) (.tmp 18) (by rfl) K1 x a b (by with_unfolding_all rfl) (by with_unfolding_all rfl) Sv.none 0 0 (unhide HX4) ?_); intro W5 HX5 HE5; simp only [Act.put]; have hb5 : Below W3.heap.size W3 W5 := (by rw [unhide HE5, ← unhide HK1]; exact belowRow (unhide HB4) (Nat.le_refl _) _); replace HX1 := hide (box_below (unhide HX1) hb5); replace HX2 := hide (box_below (unhide HX2) hb5); replace HO3 := hide ((unhide HO3).below hb5); replace HBU : Hid (Below N u W5) := (unhide HBU).trans (hb5.mono (by have := (unhide HS3).2; omega)); have HS5 : Hid (K1 + 1 = W5.heap.size) := (by rw [unhide HE5, size_setRow]; exact (unhide HS4).symm); clear hb5 HX4 HB4 HS4 HE5)
        | ((with_reducible refine wpList_store_ob (by rfl) (.tmp 2) (.tmp 22) (by rfl) (N + 1) ⟨#[]⟩ Sv.none 0 0 (by with_unfolding_all rfl) (by with_unfolding_all rfl) _ _ _ _ (unhide HX2) ?_); intro X7 HX7 HE7; simp only [Act.put])
        | fail)
      refine bodyPost_ret (results_cell_tmp rfl _ _ (N + 1) 33 #[.string ⟨#[]⟩, .slice none 0 0, .slice none 0 0] (0, 0) _ rfl (unhide HX7) obUnd rfl obInfo) rfl ?_
      exact ⟨Sv.none, 0, 0, rfl, rfl, rfl, OwnT.none _ _, by rw [unhide HE7]; exact belowRow (unhide HBU) (by omega) _⟩
  · have hlt : (k.size : Int) < 2 := by omega
    have hJ2 : unpV k z = (Ot.none, 4) := by unfold unpV; rw [if_neg]; rintro ⟨h3, -, -⟩; exact h1 h3
    rw [hJ2] at hJ
    cases hJ
    clear hJ2 h1 hz
    go_enter Try.func19, Try.ntmps19
    go_wp2_with (first
      | ((with_reducible refine wpList_box_ce (by rfl) (.tmp 0) (by rfl) (some 1) (by rfl) N (unhide HN) k z (by with_unfolding_all rfl) ?_); intro W1 HX1 HB1 HS1; simp only [Act.put, List.setIfInBounds_toArray, List.set_cons_zero, List.set_cons_succ])
      | ((with_reducible refine wpList_alloc_ob (by rfl) (by rfl) (some 2) (by rfl) (N + 1) (unhide HS1).symm ?_); intro W2 HX2 HB2 HS2; simp only [Act.put, List.setIfInBounds_toArray, List.set_cons_zero, List.set_cons_succ]; replace HX1 : Hid (W2.heap[N]? = some (ceRow k z)) := ((unhide HB2).block N (Nat.lt_succ_self _)).trans (unhide HX1); have HBU : Hid (Below N u W2) := (unhide HB1).trans ((unhide HB2).mono (Nat.le_succ _)); clear HB1 HB2 HS1; obtain ⟨c0, c1⟩ := ce_cells (unhide HX1))
      | ((with_reducible refine wpList_store_ob (by rfl) (.tmp 2) (.tmp 13) (by rfl) (N + 1) ⟨#[]⟩ Sv.none 0 0 (by with_unfolding_all rfl) (by with_unfolding_all rfl) _ _ _ _ (unhide HX2) ?_); intro X7 HX7 HE7; simp only [Act.put])
      | fail)
    refine bodyPost_ret (results_cell_tmp rfl _ _ (N + 1) 33 #[.string ⟨#[]⟩, .slice none 0 0, .slice none 0 0] (0, 0) _ rfl (unhide HX7) obUnd rfl obInfo) rfl ?_
    exact ⟨Sv.none, 0, 0, rfl, rfl, rfl, OwnT.none _ _, by rw [unhide HE7]; exact belowRow (unhide HBU) (by omega) _⟩
set_option maxRecDepth 100000 in
set_option maxHeartbeats 2000000 in
theorem oSame {u : World} {o q : Ot} {v w : Sv} {n m n' m' : Nat} (h : Sx u o.st v n m) (h' : Sx u q.st w n' m') (r : Bool) (hr : r = (decide (o.key = q.key) && sameB o.st q.st)) : Calls Try.prog 29 #[obV o.key v n m, obV q.key w n' m'] u fun e u' => e = .returned (.bool r) ∧ Below u.heap.size u u' := by
  obtain ⟨N, hN⟩ : ∃ N, N = u.heap.size := ⟨_, rfl⟩
  have HN := hide hN
  have HU : Hid (∀ W : World, Below N u W → Below u.heap.size u W) := fun W hW => by rw [← unhide HN]; exact hW
  have HC : Hid (∀ W, Below N u W → Calls Try.prog 62 #[v.v n m, w.v n' m'] W fun e W' => e = .returned (.bool (sameB o.st q.st)) ∧ Below W.heap.size W W') := fun W hW => kvSame _ rfl (h.below (unhide HU _ hW)) (h'.below (unhide HU _ hW)) W (Below.refl _ _)
  generalize sameB o.st q.st = sb at *
  rw [← hN]
  clear hN h h'
  by_cases hk : o.key = q.key
  · have hq : (o.key.toList == q.key.toList) = true := by rw [hk]; simp
    rw [decide_eq_true hk, Bool.true_and] at hr
    subst hr
    clear hk
    go_enter Try.func29, Try.ntmps29
    go_wp2_with (first
      | ((with_reducible refine wpList_box_ob (by rfl) (.tmp 0) (by rfl) (some 2) (by rfl) N (unhide HN) o.key v n m (by with_unfolding_all rfl) ?_); intro W1 HX1 HB1 HS1; simp only [Act.put, List.setIfInBounds_toArray, List.set_cons_zero, List.set_cons_succ])
      | ((with_reducible refine wpList_box_ob (by rfl) (.tmp 1) (by rfl) (some 3) (by rfl) (N + 1) (unhide HS1).symm q.key w n' m' (by with_unfolding_all rfl) ?_); intro W2 HX2 HB2 HS2; simp only [Act.put, List.setIfInBounds_toArray, List.set_cons_zero, List.set_cons_succ]; replace HX1 := hide (((unhide HB2).block N (Nat.lt_succ_self _)).trans (unhide HX1)); replace HB1 : Hid (Below N u W2) := (unhide HB1).trans ((unhide HB2).mono (Nat.le_succ _)); obtain ⟨c0, c1, c2⟩ := ob_cells (unhide HX1); obtain ⟨d0, d1, d2⟩ := ob_cells (unhide HX2))
      | (go_at_call 62; refine (unhide HC W2 (unhide HB1)).mono ?_; rintro e W3 ⟨rfl, hb⟩; have HB3 := hide hb; clear hb)
      | fail)
    go_ret
    exact ⟨rfl, (unhide HB1).trans ((unhide HB3).mono (by rw [unhide HS2]; omega))⟩
  · have hq : (o.key.toList == q.key.toList) = false := by
      rw [← Bool.not_eq_true]
      intro h
      exact hk (toList_inj h)
    rw [decide_eq_false hk, Bool.false_and] at hr
    subst hr
    clear hk
    go_enter Try.func29, Try.ntmps29
    go_wp2_with (first
      | ((with_reducible refine wpList_box_ob (by rfl) (.tmp 0) (by rfl) (some 2) (by rfl) N (unhide HN) o.key v n m (by with_unfolding_all rfl) ?_); intro W1 HX1 HB1 HS1; simp only [Act.put, List.setIfInBounds_toArray, List.set_cons_zero, List.set_cons_succ])
      | ((with_reducible refine wpList_box_ob (by rfl) (.tmp 1) (by rfl) (some 3) (by rfl) (N + 1) (unhide HS1).symm q.key w n' m' (by with_unfolding_all rfl) ?_); intro W2 HX2 HB2 HS2; simp only [Act.put, List.setIfInBounds_toArray, List.set_cons_zero, List.set_cons_succ]; replace HX1 := hide (((unhide HB2).block N (Nat.lt_succ_self _)).trans (unhide HX1)); replace HB1 : Hid (Below N u W2) := (unhide HB1).trans ((unhide HB2).mono (Nat.le_succ _)); obtain ⟨c0, c1, c2⟩ := ob_cells (unhide HX1); obtain ⟨d0, d1, d2⟩ := ob_cells (unhide HX2))
      | fail)
    go_ret
    exact ⟨rfl, unhide HB1⟩
end Go.Proofs.Ytkcbljmjhlnjpaa
