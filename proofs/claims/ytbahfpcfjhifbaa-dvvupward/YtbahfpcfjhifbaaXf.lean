/- Vectors: two dots by their actors, the later of two. -/
import Derived.Test.YtbahfpcfjhifbaaXe
namespace Go.Proofs.Ytbahfpcfjhifbaa
open Go.RowKit

theorem cNan (x : Int) (w : World) : Calls Try.prog 131 #[.int .u32 x] w fun e w' => e = .returned (.bool false) ∧ w' = w := by
  go_enter Try.func131, Try.ntmps131
  go_wp2
  go_ret
  exact ⟨by simp, rfl⟩
/-- how two numbers stand -/
def ordI (x y : Nat) : Int := if x < y then -1 else if y < x then 1 else 0
theorem cCmp (x y : Nat) (w : World) : Calls Try.prog 120 #[.int .u32 (x : Int), .int .u32 (y : Int)] w fun e w' => e = .returned (.int .i64 (ordI x y)) ∧ w' = w := by
  have HX := hide (fun (z : Int) (w : World) => cNan z w)
  by_cases h1 : x < y
  · have h1i : (x : Int) < (y : Int) := by omega
    rw [show ordI x y = -1 from if_pos h1]
    go_enter Try.func120, Try.ntmps120
    go_wp2_with (first | (go_at_call 131; refine (unhide HX _ _).mono ?_; rintro e w1 ⟨rfl, rfl⟩) | fail)
    go_ret
    exact ⟨rfl, rfl⟩
  · have h1i : ¬ (x : Int) < (y : Int) := by omega
    by_cases h2 : y < x
    · have h2i : (y : Int) < (x : Int) := by omega
      rw [show ordI x y = 1 by unfold ordI; rw [if_neg h1, if_pos h2]]
      go_enter Try.func120, Try.ntmps120
      go_wp2_with (first | (go_at_call 131; refine (unhide HX _ _).mono ?_; rintro e w1 ⟨rfl, rfl⟩) | fail)
      go_ret
      exact ⟨rfl, rfl⟩
    · have h2i : ¬ (y : Int) < (x : Int) := by omega
      rw [show ordI x y = 0 by unfold ordI; rw [if_neg h1, if_neg h2]]
      go_enter Try.func120, Try.ntmps120
      go_wp2_with (first | (go_at_call 131; refine (unhide HX _ _).mono ?_; rintro e w1 ⟨rfl, rfl⟩) | fail)
      go_ret
      exact ⟨rfl, rfl⟩
set_option maxRecDepth 100000 in
theorem vByActor (p q : Nat × Nat) (u : World) : Calls Try.prog 94 #[.agg #[.int .u32 (p.1 : Int), .int .u64 (p.2 : Int)], .agg #[.int .u32 (q.1 : Int), .int .u64 (q.2 : Int)]] u fun e u' => e = .returned (.int .i64 (ordI p.1 q.1)) ∧ Below u.heap.size u u' := by
  obtain ⟨pa, pc⟩ := p
  obtain ⟨qa, qc⟩ := q
  show Calls Try.prog 94 #[.agg #[.int .u32 (pa : Int), .int .u64 (pc : Int)], .agg #[.int .u32 (qa : Int), .int .u64 (qc : Int)]] u fun e u' => e = .returned (.int .i64 (ordI pa qa)) ∧ Below u.heap.size u u'
  have HX := hide (fun (w : World) => cCmp pa qa w)
  obtain ⟨N, hN⟩ : ∃ N, N = u.heap.size := ⟨_, rfl⟩
  have HN := hide hN
  rw [← hN]
  clear hN
  go_enter Try.func94, Try.ntmps94
  go_wp2_with (first
    | ((with_reducible refine wpList_box_dot (by rfl) (.tmp 0) (by rfl) (some 2) (by rfl) N (unhide HN) (pa : Int) (pc : Int) (by with_unfolding_all rfl) ?_); intro W1 HX1 HB1 HS1; simp only [Act.put, List.setIfInBounds_toArray, List.set_cons_zero, List.set_cons_succ])
    | ((with_reducible refine wpList_box_dot (by rfl) (.tmp 1) (by rfl) (some 3) (by rfl) (N + 1) (unhide HS1).symm (qa : Int) (qc : Int) (by with_unfolding_all rfl) ?_); intro W2 HX2 HB2 HS2; simp only [Act.put, List.setIfInBounds_toArray, List.set_cons_zero, List.set_cons_succ]; obtain ⟨y0, y1⟩ := box2 (unhide HX2); obtain ⟨z0, z1⟩ := box2 (((unhide HB2).block N (Nat.lt_succ_self _)).trans (unhide HX1)))
    | (go_at_call 120; refine (unhide HX _).mono ?_; rintro e w3 ⟨rfl, hw⟩; obtain rfl := hw.symm; clear hw)
    | fail)
  go_ret
  exact ⟨rfl, (unhide HB1).trans ((unhide HB2).mono (Nat.le_succ _))⟩
set_option maxRecDepth 100000 in
set_option maxHeartbeats 2000000 in
theorem vLater (p q : Nat × Nat) (u : World) : Calls Try.prog 95 #[.agg #[.int .u32 (p.1 : Int), .int .u64 (p.2 : Int)], .agg #[.int .u32 (q.1 : Int), .int .u64 (q.2 : Int)]] u fun e u' => e = .returned (.agg #[.int .u32 ((V.later p q).1 : Int), .int .u64 ((V.later p q).2 : Int)]) ∧ Below u.heap.size u u' := by
  obtain ⟨pa, pc⟩ := p
  obtain ⟨qa, qc⟩ := q
  obtain ⟨N, hN⟩ : ∃ N, N = u.heap.size := ⟨_, rfl⟩
  have HN := hide hN
  rw [← hN]
  clear hN
  by_cases h1 : pc < qc
  · have h1i : (pc : Int) < (qc : Int) := by omega
    rw [show V.later (pa, pc) (qa, qc) = (qa, qc) from if_pos h1]
    show Calls Try.prog 95 #[.agg #[.int .u32 (pa : Int), .int .u64 (pc : Int)], .agg #[.int .u32 (qa : Int), .int .u64 (qc : Int)]] u fun e u' => e = .returned (.agg #[.int .u32 (qa : Int), .int .u64 (qc : Int)]) ∧ Below N u u'
    go_enter Try.func95, Try.ntmps95
    go_wp2_with (first
      | ((with_reducible refine wpList_box_dot (by rfl) (.tmp 0) (by rfl) (some 2) (by rfl) N (unhide HN) (pa : Int) (pc : Int) (by with_unfolding_all rfl) ?_); intro W1 HX1 HB1 HS1; simp only [Act.put, List.setIfInBounds_toArray, List.set_cons_zero, List.set_cons_succ])
      | ((with_reducible refine wpList_box_dot (by rfl) (.tmp 1) (by rfl) (some 3) (by rfl) (N + 1) (unhide HS1).symm (qa : Int) (qc : Int) (by with_unfolding_all rfl) ?_); intro W2 HX2 HB2 HS2; simp only [Act.put, List.setIfInBounds_toArray, List.set_cons_zero, List.set_cons_succ])
      | ((with_reducible refine wpList_alloc_dot (by rfl) (by rfl) (some 4) (by rfl) (N + 1 + 1) (unhide HS2).symm ?_); intro W3 HX3 HB3 HS3; simp only [Act.put, List.setIfInBounds_toArray, List.set_cons_zero, List.set_cons_succ]; obtain ⟨y0, y1⟩ := box2 (((unhide HB3).block (N + 1) (Nat.lt_succ_self _)).trans (unhide HX2)); obtain ⟨z0, z1⟩ := box2 ((((unhide HB2).trans ((unhide HB3).mono (Nat.le_succ _))).block N (Nat.lt_succ_self _)).trans (unhide HX1)))
      | ((with_reducible refine wpList_store_dot (by rfl) (.tmp 4) (.tmp 10) (by rfl) (N + 1 + 1) (qa : Int) (qc : Int) (by with_unfolding_all rfl) (by with_unfolding_all rfl) (unhide HX3) ?_); intro W4 HX4 HE4; simp only [Act.put])
      | fail)
    refine bodyPost_ret (results_cell rfl _ _ (N + 1 + 1) 43 #[.int .u32 (qa : Int), .int .u64 (qc : Int)] (0, 0) _ rfl (unhide HX4) dotUnd rfl dotInfo) rfl ?_
    exact ⟨rfl, by rw [unhide HE4]; exact belowRow ((unhide HB1).trans (((unhide HB2).trans ((unhide HB3).mono (Nat.le_succ _))).mono (Nat.le_succ _))) (by omega) _⟩
  · have h1i : ¬ (pc : Int) < (qc : Int) := by omega
    rw [show V.later (pa, pc) (qa, qc) = (pa, pc) from if_neg h1]
    show Calls Try.prog 95 #[.agg #[.int .u32 (pa : Int), .int .u64 (pc : Int)], .agg #[.int .u32 (qa : Int), .int .u64 (qc : Int)]] u fun e u' => e = .returned (.agg #[.int .u32 (pa : Int), .int .u64 (pc : Int)]) ∧ Below N u u'
    go_enter Try.func95, Try.ntmps95
    go_wp2_with (first
      | ((with_reducible refine wpList_box_dot (by rfl) (.tmp 0) (by rfl) (some 2) (by rfl) N (unhide HN) (pa : Int) (pc : Int) (by with_unfolding_all rfl) ?_); intro W1 HX1 HB1 HS1; simp only [Act.put, List.setIfInBounds_toArray, List.set_cons_zero, List.set_cons_succ])
      | ((with_reducible refine wpList_box_dot (by rfl) (.tmp 1) (by rfl) (some 3) (by rfl) (N + 1) (unhide HS1).symm (qa : Int) (qc : Int) (by with_unfolding_all rfl) ?_); intro W2 HX2 HB2 HS2; simp only [Act.put, List.setIfInBounds_toArray, List.set_cons_zero, List.set_cons_succ])
      | ((with_reducible refine wpList_alloc_dot (by rfl) (by rfl) (some 4) (by rfl) (N + 1 + 1) (unhide HS2).symm ?_); intro W3 HX3 HB3 HS3; simp only [Act.put, List.setIfInBounds_toArray, List.set_cons_zero, List.set_cons_succ]; obtain ⟨y0, y1⟩ := box2 (((unhide HB3).block (N + 1) (Nat.lt_succ_self _)).trans (unhide HX2)); obtain ⟨z0, z1⟩ := box2 ((((unhide HB2).trans ((unhide HB3).mono (Nat.le_succ _))).block N (Nat.lt_succ_self _)).trans (unhide HX1)))
      | ((with_reducible refine wpList_store_dot (by rfl) (.tmp 4) (.tmp 11) (by rfl) (N + 1 + 1) (pa : Int) (pc : Int) (by with_unfolding_all rfl) (by with_unfolding_all rfl) (unhide HX3) ?_); intro W4 HX4 HE4; simp only [Act.put])
      | fail)
    refine bodyPost_ret (results_cell rfl _ _ (N + 1 + 1) 43 #[.int .u32 (pa : Int), .int .u64 (pc : Int)] (0, 0) _ rfl (unhide HX4) dotUnd rfl dotInfo) rfl ?_
    exact ⟨rfl, by rw [unhide HE4]; exact belowRow ((unhide HB1).trans (((unhide HB2).trans ((unhide HB3).mono (Nat.le_succ _))).mono (Nat.le_succ _))) (by omega) _⟩
end Go.Proofs.Ytbahfpcfjhifbaa
