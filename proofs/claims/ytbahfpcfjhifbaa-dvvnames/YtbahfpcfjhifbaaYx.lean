/- A state from its bytes. -/
import Derived.Test.YtbahfpcfjhifbaaYv
namespace Go.Proofs.Ytbahfpcfjhifbaa
open Go.RowKit Go.Lib
/-- what Decode answers -/
noncomputable def decT (s : ByteArray) : St × Int :=
  open Classical in if W.endE s.size (tkT s 0 0).2.1 (tkT s 0 0).2.2 = 0 ∧ SOk (tkT s 0 0).1 then ((tkT s 0 0).1, 0) else (St.none, 110)
theorem decT_ok {s : ByteArray} {T : St} {q : Nat} {e : Int} (h : tkT s 0 0 = (T, q, e)) (h1 : W.endE s.size q e = 0) (h2 : SOk T) : decT s = (T, 0) := by
  unfold decT; rw [h]; exact if_pos ⟨h1, h2⟩
theorem decT_no {s : ByteArray} {T : St} {q : Nat} {e : Int} (h : tkT s 0 0 = (T, q, e)) (h1 : ¬ (W.endE s.size q e = 0 ∧ SOk T)) : decT s = (St.none, 110) := by
  unfold decT; rw [h]; exact if_neg h1
theorem OwnT.at' {w : World} {B : Nat} {s : St} {v : Sv} (h : OwnT w B s v) (hf : FitT s) (h1 : s.seen.length ≤ 64) (h2 : s.sibs.length ≤ 64) : SAt w s v :=
  ⟨⟨h.seen.dv, hf.seen, by omega⟩, h.sibs.sa hf.sibs (by omega)⟩
set_option maxRecDepth 100000 in
set_option maxHeartbeats 8000000 in
theorem dDecode (s : ByteArray) (u : World) (hs : s.size ≤ 140737488355328) (J : St) (r : Int) (hJ : decT s = (J, r)) : Calls Try.prog 33 #[.string s] u fun y u' => ∃ x n m, y = .returned (.tuple #[Sv.v x n m, .int .i64 r]) ∧ n = J.seen.length ∧ m = J.sibs.length ∧ OwnT u' u.heap.size J x ∧ Below u.heap.size u u' := by
  obtain ⟨N, hN⟩ : ∃ N, N = u.heap.size := ⟨_, rfl⟩
  have HN := hide hN
  rw [← hN]
  clear hN
  have HNR : Hid (∀ w : World, w.heap.size = N + 1 → Calls Try.prog 71 #[.string s] w fun e w' => e = .returned (.pointer (some ⟨N + 1, 0, none⟩)) ∧ W.Rd w' (N + 1) s 0 0 ∧ Below (N + 1) w w' ∧ w'.heap.size = N + 1 + 1) := fun w hw => (W.rNew s w).mono fun e w' hh => by
    obtain ⟨h1, h2⟩ := hh
    rw [hw] at h1
    refine ⟨h1, ?_, ?_, ?_⟩
    · rw [h2, ← hw]; exact W.Rd.new s w _ (Nat.le_trans hs (by decide))
    · rw [h2, ← hw]; exact (Below.refl _ _).alloc (Nat.le_refl _) _
    · rw [h2, ← hw]; simp
  have HTS : Hid (∀ w : World, W.Rd w (N + 1) s 0 0 → Calls Try.prog 72 #[.pointer (some ⟨N + 1, 0, none⟩)] w fun y u' => ∃ x n m, y = .returned (Sv.v x n m) ∧ n = (tkT s 0 0).1.seen.length ∧ m = (tkT s 0 0).1.sibs.length ∧ OwnT u' w.heap.size (tkT s 0 0).1 x ∧ W.Rt w u' (N + 1) s (tkT s 0 0).2.1 (tkT s 0 0).2.2) := fun w hw => dTakeState (N + 1) s 0 0 w hw
  have HF := hide (tkT_fit s 0 0)
  obtain ⟨T, q, e, hT⟩ : ∃ T q e, tkT s 0 0 = (T, q, e) := ⟨_, _, _, rfl⟩
  rw [hT] at HTS HF
  have HTS : Hid (∀ w : World, W.Rd w (N + 1) s 0 0 → Calls Try.prog 72 #[.pointer (some ⟨N + 1, 0, none⟩)] w fun y u' => ∃ x n m, y = .returned (Sv.v x n m) ∧ n = T.seen.length ∧ m = T.sibs.length ∧ OwnT u' w.heap.size T x ∧ W.Rt w u' (N + 1) s q e) := HTS
  have HF : Hid (FitT T ∧ T.seen.length ≤ 64 ∧ T.sibs.length ≤ 64) := HF
  have HV : Hid (∀ (w : World) (x : Sv) (n m : Nat), n = T.seen.length → m = T.sibs.length → SAt w T x → Calls Try.prog 15 #[Sv.v x n m] w fun e w' => e = .returned (.bool (sokB T)) ∧ Below w.heap.size w w') := fun w x n m h1 h2 h3 => by rw [h1, h2]; exact dValid' T x w h3
  have HEN : Hid (∀ w : World, W.Rd w (N + 1) s q e → Calls Try.prog 73 #[.pointer (some ⟨N + 1, 0, none⟩)] w fun x w' => x = .returned (.int .i64 (W.endE s.size q e)) ∧ ∃ n, w' = w.drewN n) := fun w h => W.rEnd (N + 1) s q e w h
  have hno := decT_no hT
  have hok := decT_ok hT
  obtain ⟨E, hE⟩ : ∃ E, E = W.endE s.size q e := ⟨_, rfl⟩
  rw [← hE] at HEN hno hok
  clear hE hT hs
  by_cases h0 : E = 0
  · subst h0
    by_cases h2 : SOk T
    · rw [hok rfl h2] at hJ
      obtain ⟨hj, hr⟩ := Prod.mk.inj hJ
      subst hj hr
      clear hJ
      rw [sokB_true.2 h2] at HV
      clear hno hok h2
      go_enter Try.func33, Try.ntmps33
      go_wp2_with (first
        | ((with_reducible refine wpList_alloc_state (by rfl) (by rfl) (some 2) (by rfl) N (unhide HN) ?_); intro W1 HX1 HB1 HS1; simp only [Act.put, List.setIfInBounds_toArray, List.set_cons_zero, List.set_cons_succ])
        | (go_at_call 71; refine (unhide HNR W1 (unhide HS1)).mono ?_; rintro y W2 ⟨rfl, h1, h2, h3⟩; have HR2 := hide h1; have HB2 := hide h2; have HS2 := hide h3; clear h1 h2 h3)
        | (go_at_call 72; refine (unhide HTS W2 (unhide HR2)).mono ?_; rintro y W3 ⟨x, nt, mt, rfl, h1, h2, h3, h4⟩; have HNT := hide h1; have HMT := hide h2; have HO3 := hide h3; have HR3 := hide h4; have HXN : Hid (W3.heap[N]? = some (stRow Sv.none 0 0)) := (h4.2.block N (by rw [unhide HS2]; omega) (by omega) (by omega)).trans (((unhide HB2).block N (Nat.lt_succ_self _)).trans (unhide HX1)); clear h1 h2 h3 h4; obtain ⟨M, hM⟩ : ∃ k, k = W3.heap.size := ⟨_, rfl⟩; have HM := hide hM; clear hM)
        | ((with_reducible refine wpList_alloc_state (by rfl) (by rfl) (some 5) (by rfl) M (unhide HM) ?_); intro W4 HX4 HB4 HS4; simp only [Act.put, List.setIfInBounds_toArray, List.set_cons_zero, List.set_cons_succ])
        | ((with_reducible refine wpList_store_state (by rfl) (.tmp 5) (.tmp 9) (by rfl) M x nt mt (by with_unfolding_all rfl) (by with_unfolding_all rfl) Sv.none 0 0 (unhide HX4) ?_); intro W5 HX5 HE5; simp only [Act.put]; have HB5 : Hid (Below W3.heap.size W3 W5) := (by rw [unhide HE5, ← unhide HM]; exact belowRow (unhide HB4) (Nat.le_refl _) _))
        | (go_at_call 73; refine (unhide HEN W5 (Rd.below (unhide HR3).1 (unhide HB5))).mono ?_; rintro y W6 ⟨rfl, z, hz⟩; have HB6 : Hid (Below W5.heap.size W5 W6) := (by rw [hz]; exact belowDrewN (Below.refl _ _) _); clear hz; obtain ⟨x0, x1⟩ := st_cells (box_below (unhide HX5) (unhide HB6)); have HB36 : Hid (Below W3.heap.size W3 W6) := (unhide HB5).trans ((unhide HB6).mono (unhide HB5).size))
        | (go_at_call 15; refine (unhide HV W6 x nt mt (unhide HNT) (unhide HMT) (OwnT.at' ((unhide HO3).below (unhide HB36)) (unhide HF).1 (unhide HF).2.1 (unhide HF).2.2)).mono ?_; rintro y W7 ⟨rfl, hb⟩; have HB7 : Hid (Below W3.heap.size W3 W7) := (unhide HB36).trans (hb.mono (unhide HB36).size); obtain ⟨x0, x1⟩ := st_cells (box_below (box_below (unhide HX5) (unhide HB6)) hb); clear hb)
        | ((with_reducible refine wpList_store_state (by rfl) (.tmp 2) (.tmp 19) (by rfl) N x nt mt (by with_unfolding_all rfl) (by with_unfolding_all rfl) Sv.none 0 0 (box_below (unhide HXN) (unhide HB7)) ?_); intro W9 HX9 HE9; simp only [Act.put])
        | fail)
      have HB9 : Hid (Below N u W9) := by
        rw [unhide HE9]
        have h3 : N + 1 + 1 ≤ W3.heap.size := by have := (unhide HR3).2.size; rw [unhide HS2] at this; exact this
        exact belowRow ((unhide HB1).trans (((unhide HB2).mono (Nat.le_succ _)).trans (((unhide HR3).2.below (by rw [unhide HS2]; omega) (Nat.le_succ _) (Nat.le_succ _)).trans ((unhide HB7).mono (by omega))))) (Nat.le_refl _) _
      have HO9 : Hid (OwnT W9 N T x) := by
        rw [unhide HE9]
        have h1 := (unhide HO3).below (unhide HB7)
        rw [unhide HS2] at h1
        refine ⟨own_keep (own_down h1.seen (by omega)) fun g hg => heapRow_other _ _ _ _ ?_, own_keep (own_down h1.sibs (by omega)) fun g hg => heapRow_other _ _ _ _ ?_⟩
        · have := (World.ownsRow.lt h1.seen g hg).1
          omega
        · have := (World.ownsRow.lt h1.sibs g hg).1
          omega
      refine bodyPost_ret (results_cell_tmp rfl _ _ N 25 #[.slice x.sa nt x.sc, .slice x.ba mt x.bc] (0, 0) _ rfl (unhide HX9) stateUnd rfl stateInfo) rfl ?_
      exact ⟨x, nt, mt, rfl, unhide HNT, unhide HMT, unhide HO9, unhide HB9⟩
    · rw [hno (fun h => h2 h.2)] at hJ
      obtain ⟨hj, hr⟩ := Prod.mk.inj hJ
      subst hj hr
      clear hJ
      rw [sokB_false.2 h2] at HV
      clear hno hok h2
      go_enter Try.func33, Try.ntmps33
      go_wp2_with (first
        | ((with_reducible refine wpList_alloc_state (by rfl) (by rfl) (some 2) (by rfl) N (unhide HN) ?_); intro W1 HX1 HB1 HS1; simp only [Act.put, List.setIfInBounds_toArray, List.set_cons_zero, List.set_cons_succ])
        | (go_at_call 71; refine (unhide HNR W1 (unhide HS1)).mono ?_; rintro y W2 ⟨rfl, h1, h2, h3⟩; have HR2 := hide h1; have HB2 := hide h2; have HS2 := hide h3; clear h1 h2 h3)
        | (go_at_call 72; refine (unhide HTS W2 (unhide HR2)).mono ?_; rintro y W3 ⟨x, nt, mt, rfl, h1, h2, h3, h4⟩; have HNT := hide h1; have HMT := hide h2; have HO3 := hide h3; have HR3 := hide h4; have HXN : Hid (W3.heap[N]? = some (stRow Sv.none 0 0)) := (h4.2.block N (by rw [unhide HS2]; omega) (by omega) (by omega)).trans (((unhide HB2).block N (Nat.lt_succ_self _)).trans (unhide HX1)); clear h1 h2 h3 h4; obtain ⟨M, hM⟩ : ∃ k, k = W3.heap.size := ⟨_, rfl⟩; have HM := hide hM; clear hM)
        | ((with_reducible refine wpList_alloc_state (by rfl) (by rfl) (some 5) (by rfl) M (unhide HM) ?_); intro W4 HX4 HB4 HS4; simp only [Act.put, List.setIfInBounds_toArray, List.set_cons_zero, List.set_cons_succ])
        | ((with_reducible refine wpList_store_state (by rfl) (.tmp 5) (.tmp 9) (by rfl) M x nt mt (by with_unfolding_all rfl) (by with_unfolding_all rfl) Sv.none 0 0 (unhide HX4) ?_); intro W5 HX5 HE5; simp only [Act.put]; have HB5 : Hid (Below W3.heap.size W3 W5) := (by rw [unhide HE5, ← unhide HM]; exact belowRow (unhide HB4) (Nat.le_refl _) _))
        | (go_at_call 73; refine (unhide HEN W5 (Rd.below (unhide HR3).1 (unhide HB5))).mono ?_; rintro y W6 ⟨rfl, z, hz⟩; have HB6 : Hid (Below W5.heap.size W5 W6) := (by rw [hz]; exact belowDrewN (Below.refl _ _) _); clear hz; obtain ⟨x0, x1⟩ := st_cells (box_below (unhide HX5) (unhide HB6)); have HB36 : Hid (Below W3.heap.size W3 W6) := (unhide HB5).trans ((unhide HB6).mono (unhide HB5).size))
        | (go_at_call 15; refine (unhide HV W6 x nt mt (unhide HNT) (unhide HMT) (OwnT.at' ((unhide HO3).below (unhide HB36)) (unhide HF).1 (unhide HF).2.1 (unhide HF).2.2)).mono ?_; rintro y W7 ⟨rfl, hb⟩; have HB7 : Hid (Below W3.heap.size W3 W7) := (unhide HB36).trans (hb.mono (unhide HB36).size); obtain ⟨x0, x1⟩ := st_cells (box_below (box_below (unhide HX5) (unhide HB6)) hb); clear hb)
        | ((with_reducible refine wpList_store_state (by rfl) (.tmp 2) (.tmp 18) (by rfl) N Sv.none 0 0 (by with_unfolding_all rfl) (by with_unfolding_all rfl) Sv.none 0 0 (box_below (unhide HXN) (unhide HB7)) ?_); intro W9 HX9 HE9; simp only [Act.put])
        | fail)
      have HB9 : Hid (Below N u W9) := by
        rw [unhide HE9]
        have h3 : N + 1 + 1 ≤ W3.heap.size := by have := (unhide HR3).2.size; rw [unhide HS2] at this; exact this
        exact belowRow ((unhide HB1).trans (((unhide HB2).mono (Nat.le_succ _)).trans (((unhide HR3).2.below (by rw [unhide HS2]; omega) (Nat.le_succ _) (Nat.le_succ _)).trans ((unhide HB7).mono (by omega))))) (Nat.le_refl _) _
      refine bodyPost_ret (results_cell_tmp rfl _ _ N 25 #[.slice Sv.none.sa 0 Sv.none.sc, .slice Sv.none.ba 0 Sv.none.bc] (0, 0) _ rfl (unhide HX9) stateUnd rfl stateInfo) rfl ?_
      exact ⟨Sv.none, 0, 0, rfl, rfl, rfl, OwnT.none _ _, unhide HB9⟩
  · rw [hno (fun h => h0 h.1)] at hJ
    obtain ⟨hj, hr⟩ := Prod.mk.inj hJ
    subst hj hr
    clear hJ
    have heb : (E == 0) = false := by simpa using h0
    clear hno hok
    go_enter Try.func33, Try.ntmps33
    go_wp2_with (first
      | ((with_reducible refine wpList_alloc_state (by rfl) (by rfl) (some 2) (by rfl) N (unhide HN) ?_); intro W1 HX1 HB1 HS1; simp only [Act.put, List.setIfInBounds_toArray, List.set_cons_zero, List.set_cons_succ])
      | (go_at_call 71; refine (unhide HNR W1 (unhide HS1)).mono ?_; rintro y W2 ⟨rfl, h1, h2, h3⟩; have HR2 := hide h1; have HB2 := hide h2; have HS2 := hide h3; clear h1 h2 h3)
      | (go_at_call 72; refine (unhide HTS W2 (unhide HR2)).mono ?_; rintro y W3 ⟨x, nt, mt, rfl, h1, h2, h3, h4⟩; have HNT := hide h1; have HMT := hide h2; have HO3 := hide h3; have HR3 := hide h4; have HXN : Hid (W3.heap[N]? = some (stRow Sv.none 0 0)) := (h4.2.block N (by rw [unhide HS2]; omega) (by omega) (by omega)).trans (((unhide HB2).block N (Nat.lt_succ_self _)).trans (unhide HX1)); clear h1 h2 h3 h4; obtain ⟨M, hM⟩ : ∃ k, k = W3.heap.size := ⟨_, rfl⟩; have HM := hide hM; clear hM)
      | ((with_reducible refine wpList_alloc_state (by rfl) (by rfl) (some 5) (by rfl) M (unhide HM) ?_); intro W4 HX4 HB4 HS4; simp only [Act.put, List.setIfInBounds_toArray, List.set_cons_zero, List.set_cons_succ])
      | ((with_reducible refine wpList_store_state (by rfl) (.tmp 5) (.tmp 9) (by rfl) M x nt mt (by with_unfolding_all rfl) (by with_unfolding_all rfl) Sv.none 0 0 (unhide HX4) ?_); intro W5 HX5 HE5; simp only [Act.put]; have HB5 : Hid (Below W3.heap.size W3 W5) := (by rw [unhide HE5, ← unhide HM]; exact belowRow (unhide HB4) (Nat.le_refl _) _))
      | (go_at_call 73; refine (unhide HEN W5 (Rd.below (unhide HR3).1 (unhide HB5))).mono ?_; rintro y W6 ⟨rfl, z, hz⟩; have HB6 : Hid (Below W5.heap.size W5 W6) := (by rw [hz]; exact belowDrewN (Below.refl _ _) _); clear hz; obtain ⟨x0, x1⟩ := st_cells (box_below (unhide HX5) (unhide HB6)); have HB36 : Hid (Below W3.heap.size W3 W6) := (unhide HB5).trans ((unhide HB6).mono (unhide HB5).size))
      | ((with_reducible refine wpList_store_state (by rfl) (.tmp 2) (.tmp 18) (by rfl) N Sv.none 0 0 (by with_unfolding_all rfl) (by with_unfolding_all rfl) Sv.none 0 0 (box_below (unhide HXN) (unhide HB36)) ?_); intro W9 HX9 HE9; simp only [Act.put])
      | fail)
    have HB9 : Hid (Below N u W9) := by
      rw [unhide HE9]
      have h3 : N + 1 + 1 ≤ W3.heap.size := by have := (unhide HR3).2.size; rw [unhide HS2] at this; exact this
      exact belowRow ((unhide HB1).trans (((unhide HB2).mono (Nat.le_succ _)).trans (((unhide HR3).2.below (by rw [unhide HS2]; omega) (Nat.le_succ _) (Nat.le_succ _)).trans ((unhide HB36).mono (by omega))))) (Nat.le_refl _) _
    refine bodyPost_ret (results_cell_tmp rfl _ _ N 25 #[.slice Sv.none.sa 0 Sv.none.sc, .slice Sv.none.ba 0 Sv.none.bc] (0, 0) _ rfl (unhide HX9) stateUnd rfl stateInfo) rfl ?_
    exact ⟨Sv.none, 0, 0, rfl, rfl, rfl, OwnT.none _ _, unhide HB9⟩
end Go.Proofs.Ytbahfpcfjhifbaa
