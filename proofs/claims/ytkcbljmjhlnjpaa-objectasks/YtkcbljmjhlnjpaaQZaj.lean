/- States, the document's side: Decode. Written by mkzaj.py. -/
import Derived.Test.YtkcbljmjhlnjpaaQZai
namespace Go.Proofs.Ytkcbljmjhlnjpaa
open Go.RowKit Go.Lib
theorem wpList_box_mr {ops : Array Oper} {rest : List Oper} {o : Oper} {a : Act} {w : World} {Q : Exit → Act → World → Prop} (hg : o.guard = none) (x : Operand) (ho : o.op = .box 104 x) (d : Option Tmp) (hd : o.dst = d) (N : Nat) (hN : N = w.heap.size) (s : ByteArray) (hs : s.size ≤ 140737488355328) (hx : a.eval x = .agg #[.string s, .int .i64 0, .int .i64 0])
    (h : ∀ w', Hid (W.Rd w' N s 0 0) → Hid (Below N w w') → Hid (w'.heap.size = N + 1) → wpList Try.prog ops Q rest (a.put d (.pointer (some ⟨N, 0, none⟩))) w') : wpList Try.prog ops Q (o :: rest) a w := by
  refine wpList_box_row hg _ x ho d hd N hN.symm #[.string s, .int .i64 0, .int .i64 0] (by rw [hx]; rfl) fun w' h1 h2 h3 => h w' ?_ h2 h3
  have h4 := W.Rd.new s w 104 (Nat.le_trans hs (by decide))
  rw [← hN] at h4
  refine h4.same (by rw [unhide h3]; simp [hN]) ((unhide h1).trans ?_)
  rw [hN]; exact (heap_alloc_new _ _).symm
set_option maxRecDepth 100000 in
set_option maxHeartbeats 8000000 in
theorem rDecT (s : ByteArray) (u : World) (hs : s.size ≤ 140737488355328) (J : St) (r : Int) (hJ : decT s = (J, r)) : Calls Try.prog 43 #[.string s] u fun y u' => ∃ x n m, y = .returned (.tuple #[Sv.v x n m, .int .i64 r]) ∧ n = J.seen.length ∧ m = J.sibs.length ∧ OwnT u' u.heap.size J x ∧ Below u.heap.size u u' := by
  obtain ⟨N, hN⟩ : ∃ N, N = u.heap.size := ⟨_, rfl⟩
  have HN := hide hN
  rw [← hN]
  clear hN
  have HTS : Hid (∀ w : World, W.Rd w (N + 1) s 0 0 → Calls Try.prog 76 #[.pointer (some ⟨N + 1, 0, none⟩)] w fun y u' => ∃ x n m, y = .returned (Sv.v x n m) ∧ n = (dtT s 0 0).1.seen.length ∧ m = (dtT s 0 0).1.sibs.length ∧ OwnT u' w.heap.size (dtT s 0 0).1 x ∧ W.Rt w u' (N + 1) s (dtT s 0 0).2.1 (dtT s 0 0).2.2) := fun w hw => rTakeT (N + 1) s 0 0 w hw
  have HF := hide (dtT_fit s 0 0)
  obtain ⟨T, q, e, hT⟩ : ∃ T q e, dtT s 0 0 = (T, q, e) := ⟨_, _, _, rfl⟩
  rw [hT] at HTS HF
  have HTS : Hid (∀ w : World, W.Rd w (N + 1) s 0 0 → Calls Try.prog 76 #[.pointer (some ⟨N + 1, 0, none⟩)] w fun y u' => ∃ x n m, y = .returned (Sv.v x n m) ∧ n = T.seen.length ∧ m = T.sibs.length ∧ OwnT u' w.heap.size T x ∧ W.Rt w u' (N + 1) s q e) := HTS
  have HF : Hid (FitT T ∧ T.seen.length ≤ 64 ∧ T.sibs.length ≤ 64) := HF
  have HV : Hid (∀ (w : World) (x : Sv) (n m : Nat), n = T.seen.length → m = T.sibs.length → SAt w T x → Calls Try.prog 71 #[Sv.v x n m] w fun e w' => e = .returned (.tuple #[.string (encT T).1, .int .i64 (encT T).2]) ∧ Below w.heap.size w w') := fun w x n m h1 h2 h3 => by rw [h1, h2]; exact rEncT T x w h3
  have HEN : Hid (∀ w : World, W.Rd w (N + 1) s q e → Calls Try.prog 77 #[.pointer (some ⟨N + 1, 0, none⟩)] w fun x w' => x = .returned (.int .i64 (W.endE s.size q e)) ∧ ∃ n, w' = w.drewN n) := fun w h => W.mEnd (N + 1) s q e w h
  obtain ⟨hok, hno⟩ := dec_doc hT
  have HSS := hide hs
  clear hs hT
  obtain ⟨E, hE⟩ : ∃ E, E = W.endE s.size q e := ⟨_, rfl⟩
  rw [← hE] at HEN hno hok
  clear hE
  obtain ⟨b, er, hb⟩ : ∃ b er, encT T = (b, er) := ⟨_, _, rfl⟩
  rw [hb] at HV hno hok
  have HV : Hid (∀ (w : World) (x : Sv) (n m : Nat), n = T.seen.length → m = T.sibs.length → SAt w T x → Calls Try.prog 71 #[Sv.v x n m] w fun e w' => e = .returned (.tuple #[.string b, .int .i64 er]) ∧ Below w.heap.size w w') := HV
  clear hb
  simp only at hok hno
  by_cases h0 : E = 0
  · by_cases h1 : er = 0
    · by_cases h2 : b = s
      · rw [hok h0 h1 h2] at hJ
        obtain ⟨hj, hr⟩ := Prod.mk.inj hJ
        subst hj hr h0 h1 h2
        clear hJ hno hok
        go_enter Try.func43, Try.ntmps43
        go_wp2_with (first
          | ((with_reducible refine wpList_alloc_state (by rfl) (by rfl) (some 2) (by rfl) N (unhide HN) ?_); intro W1 HX1 HB1 HS1; simp only [Act.put, List.setIfInBounds_toArray, List.set_cons_zero, List.set_cons_succ])
          | ((with_reducible refine wpList_box_mr (by rfl) (.tmp 9) (by rfl) (some 10) (by rfl) (N + 1) (unhide HS1).symm _ (unhide HSS) (by with_unfolding_all rfl) ?_); intro W2 HR2 HB2 HS2; simp only [Act.put, List.setIfInBounds_toArray, List.set_cons_zero, List.set_cons_succ])
          | (go_at_call 76; refine (unhide HTS W2 (unhide HR2)).mono ?_; rintro y W3 ⟨x, nt, mt, rfl, h1, h2, h3, h4⟩; have HNT := hide h1; have HMT := hide h2; have HO3 := hide h3; have HR3 := hide h4; have HXN : Hid (W3.heap[N]? = some (stRow Sv.none 0 0)) := (h4.2.block N (by rw [unhide HS2]; omega) (by omega) (by omega)).trans (((unhide HB2).block N (Nat.lt_succ_self _)).trans (unhide HX1)); clear h1 h2 h3 h4; obtain ⟨M, hM⟩ : ∃ k, k = W3.heap.size := ⟨_, rfl⟩; have HM := hide hM; clear hM)
          | ((with_reducible refine wpList_alloc_state (by rfl) (by rfl) (some 5) (by rfl) M (unhide HM) ?_); intro W4 HX4 HB4 HS4; simp only [Act.put, List.setIfInBounds_toArray, List.set_cons_zero, List.set_cons_succ])
          | ((with_reducible refine wpList_store_state (by rfl) (.tmp 5) (.tmp 12) (by rfl) M x nt mt (by with_unfolding_all rfl) (by with_unfolding_all rfl) Sv.none 0 0 (unhide HX4) ?_); intro W5 HX5 HE5; simp only [Act.put]; have HB5 : Hid (Below W3.heap.size W3 W5) := (by rw [unhide HE5, ← unhide HM]; exact belowRow (unhide HB4) (Nat.le_refl _) _); obtain ⟨x0, x1⟩ := st_cells (unhide HX5))
          | (go_at_call 71; refine (unhide HV W5 x nt mt (unhide HNT) (unhide HMT) (OwnT.at' ((unhide HO3).below (unhide HB5)) (unhide HF).1 (unhide HF).2.1 (unhide HF).2.2)).mono ?_; rintro y W6 ⟨rfl, hb⟩; have HB6 : Hid (Below W3.heap.size W3 W6) := (unhide HB5).trans (hb.mono (unhide HB5).size); replace HX5 := hide (box_below (unhide HX5) hb); clear hb)
          | (go_at_call 77; refine (unhide HEN W6 (Rd.below (unhide HR3).1 (unhide HB6))).mono ?_; rintro y W7 ⟨rfl, z, hz⟩; have hb7 : Below W6.heap.size W6 W7 := (by rw [hz]; exact belowDrewN (Below.refl _ _) _); clear hz; obtain ⟨x0, x1⟩ := st_cells (box_below (unhide HX5) hb7); have HB7 : Hid (Below W3.heap.size W3 W7) := (unhide HB6).trans (hb7.mono (unhide HB6).size); clear hb7)
          | ((with_reducible refine wpList_store_state (by rfl) (.tmp 2) (.tmp 31) (by rfl) N x nt mt (by with_unfolding_all rfl) (by with_unfolding_all rfl) Sv.none 0 0 (box_below (unhide HXN) (unhide HB7)) ?_); intro W9 HX9 HE9; simp only [Act.put])
          | fail)
        have HB9 : Hid (Below N u W9) := by
          rw [unhide HE9]
          have h3 : N + 1 + 1 ≤ W3.heap.size := by have := (unhide HR3).2.size; rw [unhide HS2] at this; exact this
          exact belowRow ((unhide HB1).trans (((unhide HB2).mono (Nat.le_succ _)).trans (((unhide HR3).2.below (by rw [unhide HS2]; omega) (Nat.le_succ _) (Nat.le_succ _)).trans ((unhide HB7).mono (by omega))))) (Nat.le_refl _) _
        have HO9 : Hid (OwnT W9 N T x) := by
          rw [unhide HE9]
          have h1 := (unhide HO3).below (unhide HB7)
          rw [unhide HS2] at h1
          refine ⟨own_keep (own_down h1.seen (by omega)) fun g hg => heapRow_other _ _ _ _ ?_, own_keep (own_down h1.sibs (by omega)) fun g hg => heapRow_other _ _ _ _ ?_⟩
          · have := (World.ownsRow.lt h1.seen g hg).1
            omega
          · have := (World.ownsRow.lt h1.sibs g hg).1
            omega
        refine bodyPost_ret (results_cell_tmp rfl _ _ N 31 #[.slice x.sa nt x.sc, .slice x.ba mt x.bc] (0, 0) _ rfl (unhide HX9) stateUnd rfl stateInfo) rfl ?_
        exact ⟨x, nt, mt, rfl, unhide HNT, unhide HMT, unhide HO9, unhide HB9⟩
      · rw [hno (fun h => h2 h.2.2)] at hJ
        obtain ⟨hj, hr⟩ := Prod.mk.inj hJ
        subst hj hr h0 h1
        have hc1 : (b.toList == s.toList) = false := by rw [beq_eq_false_iff_ne]; exact fun h => h2 (ba_list h)
        have hc2 : (b.toList != s.toList) = true := by rw [bne_iff_ne]; exact fun h => h2 (ba_list h)
        clear hJ hno hok
        go_enter Try.func43, Try.ntmps43
        go_wp2_with (first
          | ((with_reducible refine wpList_alloc_state (by rfl) (by rfl) (some 2) (by rfl) N (unhide HN) ?_); intro W1 HX1 HB1 HS1; simp only [Act.put, List.setIfInBounds_toArray, List.set_cons_zero, List.set_cons_succ])
          | ((with_reducible refine wpList_box_mr (by rfl) (.tmp 9) (by rfl) (some 10) (by rfl) (N + 1) (unhide HS1).symm _ (unhide HSS) (by with_unfolding_all rfl) ?_); intro W2 HR2 HB2 HS2; simp only [Act.put, List.setIfInBounds_toArray, List.set_cons_zero, List.set_cons_succ])
          | (go_at_call 76; refine (unhide HTS W2 (unhide HR2)).mono ?_; rintro y W3 ⟨x, nt, mt, rfl, h1, h2, h3, h4⟩; have HNT := hide h1; have HMT := hide h2; have HO3 := hide h3; have HR3 := hide h4; have HXN : Hid (W3.heap[N]? = some (stRow Sv.none 0 0)) := (h4.2.block N (by rw [unhide HS2]; omega) (by omega) (by omega)).trans (((unhide HB2).block N (Nat.lt_succ_self _)).trans (unhide HX1)); clear h1 h2 h3 h4; obtain ⟨M, hM⟩ : ∃ k, k = W3.heap.size := ⟨_, rfl⟩; have HM := hide hM; clear hM)
          | ((with_reducible refine wpList_alloc_state (by rfl) (by rfl) (some 5) (by rfl) M (unhide HM) ?_); intro W4 HX4 HB4 HS4; simp only [Act.put, List.setIfInBounds_toArray, List.set_cons_zero, List.set_cons_succ])
          | ((with_reducible refine wpList_store_state (by rfl) (.tmp 5) (.tmp 12) (by rfl) M x nt mt (by with_unfolding_all rfl) (by with_unfolding_all rfl) Sv.none 0 0 (unhide HX4) ?_); intro W5 HX5 HE5; simp only [Act.put]; have HB5 : Hid (Below W3.heap.size W3 W5) := (by rw [unhide HE5, ← unhide HM]; exact belowRow (unhide HB4) (Nat.le_refl _) _); obtain ⟨x0, x1⟩ := st_cells (unhide HX5))
          | (go_at_call 71; refine (unhide HV W5 x nt mt (unhide HNT) (unhide HMT) (OwnT.at' ((unhide HO3).below (unhide HB5)) (unhide HF).1 (unhide HF).2.1 (unhide HF).2.2)).mono ?_; rintro y W6 ⟨rfl, hb⟩; have HB6 : Hid (Below W3.heap.size W3 W6) := (unhide HB5).trans (hb.mono (unhide HB5).size); replace HX5 := hide (box_below (unhide HX5) hb); clear hb)
          | (go_at_call 77; refine (unhide HEN W6 (Rd.below (unhide HR3).1 (unhide HB6))).mono ?_; rintro y W7 ⟨rfl, z, hz⟩; have hb7 : Below W6.heap.size W6 W7 := (by rw [hz]; exact belowDrewN (Below.refl _ _) _); clear hz; obtain ⟨x0, x1⟩ := st_cells (box_below (unhide HX5) hb7); have HB7 : Hid (Below W3.heap.size W3 W7) := (unhide HB6).trans (hb7.mono (unhide HB6).size); clear hb7)
          | ((with_reducible refine wpList_store_state (by rfl) (.tmp 2) (.tmp 30) (by rfl) N Sv.none 0 0 (by with_unfolding_all rfl) (by with_unfolding_all rfl) Sv.none 0 0 (box_below (unhide HXN) (unhide HB7)) ?_); intro W9 HX9 HE9; simp only [Act.put])
          | fail)
        have HB9 : Hid (Below N u W9) := by
          rw [unhide HE9]
          have h3 : N + 1 + 1 ≤ W3.heap.size := by have := (unhide HR3).2.size; rw [unhide HS2] at this; exact this
          exact belowRow ((unhide HB1).trans (((unhide HB2).mono (Nat.le_succ _)).trans (((unhide HR3).2.below (by rw [unhide HS2]; omega) (Nat.le_succ _) (Nat.le_succ _)).trans ((unhide HB7).mono (by omega))))) (Nat.le_refl _) _
        refine bodyPost_ret (results_cell_tmp rfl _ _ N 31 #[.slice Sv.none.sa 0 Sv.none.sc, .slice Sv.none.ba 0 Sv.none.bc] (0, 0) _ rfl (unhide HX9) stateUnd rfl stateInfo) rfl ?_
        exact ⟨Sv.none, 0, 0, rfl, rfl, rfl, OwnT.none _ _, unhide HB9⟩
    · rw [hno (fun h => h1 h.2.1)] at hJ
      obtain ⟨hj, hr⟩ := Prod.mk.inj hJ
      subst hj hr h0
      have hc1 : (er == 0) = false := by simpa using h1
      clear hJ hno hok
      go_enter Try.func43, Try.ntmps43
      go_wp2_with (first
        | ((with_reducible refine wpList_alloc_state (by rfl) (by rfl) (some 2) (by rfl) N (unhide HN) ?_); intro W1 HX1 HB1 HS1; simp only [Act.put, List.setIfInBounds_toArray, List.set_cons_zero, List.set_cons_succ])
        | ((with_reducible refine wpList_box_mr (by rfl) (.tmp 9) (by rfl) (some 10) (by rfl) (N + 1) (unhide HS1).symm _ (unhide HSS) (by with_unfolding_all rfl) ?_); intro W2 HR2 HB2 HS2; simp only [Act.put, List.setIfInBounds_toArray, List.set_cons_zero, List.set_cons_succ])
        | (go_at_call 76; refine (unhide HTS W2 (unhide HR2)).mono ?_; rintro y W3 ⟨x, nt, mt, rfl, h1, h2, h3, h4⟩; have HNT := hide h1; have HMT := hide h2; have HO3 := hide h3; have HR3 := hide h4; have HXN : Hid (W3.heap[N]? = some (stRow Sv.none 0 0)) := (h4.2.block N (by rw [unhide HS2]; omega) (by omega) (by omega)).trans (((unhide HB2).block N (Nat.lt_succ_self _)).trans (unhide HX1)); clear h1 h2 h3 h4; obtain ⟨M, hM⟩ : ∃ k, k = W3.heap.size := ⟨_, rfl⟩; have HM := hide hM; clear hM)
        | ((with_reducible refine wpList_alloc_state (by rfl) (by rfl) (some 5) (by rfl) M (unhide HM) ?_); intro W4 HX4 HB4 HS4; simp only [Act.put, List.setIfInBounds_toArray, List.set_cons_zero, List.set_cons_succ])
        | ((with_reducible refine wpList_store_state (by rfl) (.tmp 5) (.tmp 12) (by rfl) M x nt mt (by with_unfolding_all rfl) (by with_unfolding_all rfl) Sv.none 0 0 (unhide HX4) ?_); intro W5 HX5 HE5; simp only [Act.put]; have HB5 : Hid (Below W3.heap.size W3 W5) := (by rw [unhide HE5, ← unhide HM]; exact belowRow (unhide HB4) (Nat.le_refl _) _); obtain ⟨x0, x1⟩ := st_cells (unhide HX5))
        | (go_at_call 71; refine (unhide HV W5 x nt mt (unhide HNT) (unhide HMT) (OwnT.at' ((unhide HO3).below (unhide HB5)) (unhide HF).1 (unhide HF).2.1 (unhide HF).2.2)).mono ?_; rintro y W6 ⟨rfl, hb⟩; have HB6 : Hid (Below W3.heap.size W3 W6) := (unhide HB5).trans (hb.mono (unhide HB5).size); replace HX5 := hide (box_below (unhide HX5) hb); clear hb)
        | (go_at_call 77; refine (unhide HEN W6 (Rd.below (unhide HR3).1 (unhide HB6))).mono ?_; rintro y W7 ⟨rfl, z, hz⟩; have hb7 : Below W6.heap.size W6 W7 := (by rw [hz]; exact belowDrewN (Below.refl _ _) _); clear hz; obtain ⟨x0, x1⟩ := st_cells (box_below (unhide HX5) hb7); have HB7 : Hid (Below W3.heap.size W3 W7) := (unhide HB6).trans (hb7.mono (unhide HB6).size); clear hb7)
        | ((with_reducible refine wpList_store_state (by rfl) (.tmp 2) (.tmp 30) (by rfl) N Sv.none 0 0 (by with_unfolding_all rfl) (by with_unfolding_all rfl) Sv.none 0 0 (box_below (unhide HXN) (unhide HB7)) ?_); intro W9 HX9 HE9; simp only [Act.put])
        | fail)
      have HB9 : Hid (Below N u W9) := by
        rw [unhide HE9]
        have h3 : N + 1 + 1 ≤ W3.heap.size := by have := (unhide HR3).2.size; rw [unhide HS2] at this; exact this
        exact belowRow ((unhide HB1).trans (((unhide HB2).mono (Nat.le_succ _)).trans (((unhide HR3).2.below (by rw [unhide HS2]; omega) (Nat.le_succ _) (Nat.le_succ _)).trans ((unhide HB7).mono (by omega))))) (Nat.le_refl _) _
      refine bodyPost_ret (results_cell_tmp rfl _ _ N 31 #[.slice Sv.none.sa 0 Sv.none.sc, .slice Sv.none.ba 0 Sv.none.bc] (0, 0) _ rfl (unhide HX9) stateUnd rfl stateInfo) rfl ?_
      exact ⟨Sv.none, 0, 0, rfl, rfl, rfl, OwnT.none _ _, unhide HB9⟩
  · rw [hno (fun h => h0 h.1)] at hJ
    obtain ⟨hj, hr⟩ := Prod.mk.inj hJ
    subst hj hr
    have heb : (E == 0) = false := by simpa using h0
    clear hJ hno hok
    go_enter Try.func43, Try.ntmps43
    go_wp2_with (first
      | ((with_reducible refine wpList_alloc_state (by rfl) (by rfl) (some 2) (by rfl) N (unhide HN) ?_); intro W1 HX1 HB1 HS1; simp only [Act.put, List.setIfInBounds_toArray, List.set_cons_zero, List.set_cons_succ])
      | ((with_reducible refine wpList_box_mr (by rfl) (.tmp 9) (by rfl) (some 10) (by rfl) (N + 1) (unhide HS1).symm _ (unhide HSS) (by with_unfolding_all rfl) ?_); intro W2 HR2 HB2 HS2; simp only [Act.put, List.setIfInBounds_toArray, List.set_cons_zero, List.set_cons_succ])
      | (go_at_call 76; refine (unhide HTS W2 (unhide HR2)).mono ?_; rintro y W3 ⟨x, nt, mt, rfl, h1, h2, h3, h4⟩; have HNT := hide h1; have HMT := hide h2; have HO3 := hide h3; have HR3 := hide h4; have HXN : Hid (W3.heap[N]? = some (stRow Sv.none 0 0)) := (h4.2.block N (by rw [unhide HS2]; omega) (by omega) (by omega)).trans (((unhide HB2).block N (Nat.lt_succ_self _)).trans (unhide HX1)); clear h1 h2 h3 h4; obtain ⟨M, hM⟩ : ∃ k, k = W3.heap.size := ⟨_, rfl⟩; have HM := hide hM; clear hM)
      | ((with_reducible refine wpList_alloc_state (by rfl) (by rfl) (some 5) (by rfl) M (unhide HM) ?_); intro W4 HX4 HB4 HS4; simp only [Act.put, List.setIfInBounds_toArray, List.set_cons_zero, List.set_cons_succ])
      | ((with_reducible refine wpList_store_state (by rfl) (.tmp 5) (.tmp 12) (by rfl) M x nt mt (by with_unfolding_all rfl) (by with_unfolding_all rfl) Sv.none 0 0 (unhide HX4) ?_); intro W5 HX5 HE5; simp only [Act.put]; have HB5 : Hid (Below W3.heap.size W3 W5) := (by rw [unhide HE5, ← unhide HM]; exact belowRow (unhide HB4) (Nat.le_refl _) _); obtain ⟨x0, x1⟩ := st_cells (unhide HX5))
      | (go_at_call 71; refine (unhide HV W5 x nt mt (unhide HNT) (unhide HMT) (OwnT.at' ((unhide HO3).below (unhide HB5)) (unhide HF).1 (unhide HF).2.1 (unhide HF).2.2)).mono ?_; rintro y W6 ⟨rfl, hb⟩; have HB6 : Hid (Below W3.heap.size W3 W6) := (unhide HB5).trans (hb.mono (unhide HB5).size); replace HX5 := hide (box_below (unhide HX5) hb); clear hb)
      | (go_at_call 77; refine (unhide HEN W6 (Rd.below (unhide HR3).1 (unhide HB6))).mono ?_; rintro y W7 ⟨rfl, z, hz⟩; have hb7 : Below W6.heap.size W6 W7 := (by rw [hz]; exact belowDrewN (Below.refl _ _) _); clear hz; obtain ⟨x0, x1⟩ := st_cells (box_below (unhide HX5) hb7); have HB7 : Hid (Below W3.heap.size W3 W7) := (unhide HB6).trans (hb7.mono (unhide HB6).size); clear hb7)
      | ((with_reducible refine wpList_store_state (by rfl) (.tmp 2) (.tmp 30) (by rfl) N Sv.none 0 0 (by with_unfolding_all rfl) (by with_unfolding_all rfl) Sv.none 0 0 (box_below (unhide HXN) (unhide HB7)) ?_); intro W9 HX9 HE9; simp only [Act.put])
      | fail)
    have HB9 : Hid (Below N u W9) := by
      rw [unhide HE9]
      have h3 : N + 1 + 1 ≤ W3.heap.size := by have := (unhide HR3).2.size; rw [unhide HS2] at this; exact this
      exact belowRow ((unhide HB1).trans (((unhide HB2).mono (Nat.le_succ _)).trans (((unhide HR3).2.below (by rw [unhide HS2]; omega) (Nat.le_succ _) (Nat.le_succ _)).trans ((unhide HB7).mono (by omega))))) (Nat.le_refl _) _
    refine bodyPost_ret (results_cell_tmp rfl _ _ N 31 #[.slice Sv.none.sa 0 Sv.none.sc, .slice Sv.none.ba 0 Sv.none.bc] (0, 0) _ rfl (unhide HX9) stateUnd rfl stateInfo) rfl ?_
    exact ⟨Sv.none, 0, 0, rfl, rfl, rfl, OwnT.none _ _, unhide HB9⟩
end Go.Proofs.Ytkcbljmjhlnjpaa
