/- States: contents and siblings compared. -/
import Derived.Test.YtbahfpcfjhifbaaYd
namespace Go.Proofs.Ytbahfpcfjhifbaa
open Go.RowKit Go.Lib
noncomputable def ctF (i : Nat) : Field := (Try.prog.fieldsOf 70).getD i default
theorem ctFs : (Try.prog.fieldsOf 70).toList = [ctF 0, ctF 1] := by kernel_rfl
theorem ctnm0 : (ctF 0).name ≠ "_" := of_decide_eq_true (by kernel_rfl)
theorem ctnm1 : (ctF 1).name ≠ "_" := of_decide_eq_true (by kernel_rfl)
section
variable (g h : Bool) (a b : ByteArray) (u : World)
theorem ctpt0 : (part (ctF 0).type #[.bool g, .string a] (ctF 0).offset).run Try.prog u = .ok (.bool g) u := by kernel_rfl
theorem ctpt1 : (part (ctF 1).type #[.bool g, .string a] (ctF 1).offset).run Try.prog u = .ok (.string a) u := by kernel_rfl
theorem cteq0 : (Op.equalIn 9999 (ctF 0).type (.bool g) (.bool h)).run Try.prog u = .ok (g == h) u := run_equalIn_bool' u 9998 (ctF 0).type g h (by kernel_rfl)
theorem cteq1 : (Op.equalIn 9999 (ctF 1).type (.string a) (.string b)).run Try.prog u = .ok (a.toList == b.toList) u := run_equalIn_string u 9998 (ctF 1).type a b (by kernel_rfl)
theorem cteqFs : (Op.eqFields 9999 #[.bool g, .string a] #[.bool h, .string b] (Try.prog.fieldsOf 70).toList).run Try.prog u = .ok ((g == h) && (a.toList == b.toList)) u := by
  rw [ctFs]
  have h1 : (Op.eqFields 9999 #[.bool g, .string a] #[.bool h, .string b] [ctF 1]).run Try.prog u = .ok (a.toList == b.toList) u := by
    simp only [Op.eqFields, if_pos ctnm1, Sem.run_bind, ctpt1, cteq1, Result.andThen_ok]
    cases (a.toList == b.toList) <;> simp
  rw [Op.eqFields, if_pos ctnm0]
  simp only [Sem.run_bind, ctpt0, cteq0, Result.andThen_ok]
  cases (g == h)
  · simp
  · simp only [Bool.not_true, Bool.false_eq_true, if_false, Bool.true_and]
    exact h1
theorem eqlCt : (binOp .eql 70 (.agg #[.bool g, .string a]) (.agg #[.bool h, .string b])).run Try.prog u = .ok (.bool ((g == h) && (a.toList == b.toList))) u := by
  rw [run_eql_struct, run_equalIn_agg u 9999 70 _ _ (by kernel_rfl) (by kernel_rfl), cteqFs]
  rfl
end
noncomputable def sbF (i : Nat) : Field := (Try.prog.fieldsOf 56).getD i default
theorem sbFs : (Try.prog.fieldsOf 56).toList = [sbF 0, sbF 1, sbF 2] := by kernel_rfl
theorem sbnm0 : (sbF 0).name ≠ "_" := of_decide_eq_true (by kernel_rfl)
theorem sbnm1 : (sbF 1).name ≠ "_" := of_decide_eq_true (by kernel_rfl)
theorem sbnm2 : (sbF 2).name ≠ "_" := of_decide_eq_true (by kernel_rfl)
section
variable (a b c d : Int) (g h : Bool) (v w : ByteArray) (u : World)
theorem sbpt0 : (part (sbF 0).type #[.int .u32 a, .int .u64 b, .bool g, .string v] (sbF 0).offset).run Try.prog u = .ok (.agg #[.int .u32 a, .int .u64 b]) u := by kernel_rfl
theorem sbpt1 : (part (sbF 1).type #[.int .u32 a, .int .u64 b, .bool g, .string v] (sbF 1).offset).run Try.prog u = .ok (.bool g) u := by kernel_rfl
theorem sbpt2 : (part (sbF 2).type #[.int .u32 a, .int .u64 b, .bool g, .string v] (sbF 2).offset).run Try.prog u = .ok (.string v) u := by kernel_rfl
theorem deqF0 : (Op.equalIn 9998 (dF 0).type (.int .u32 a) (.int .u32 b)).run Try.prog u = .ok (a == b) u := run_equalIn_int u 9997 (dF 0).type .u32 .u32 a b (by kernel_rfl)
theorem deqF1 : (Op.equalIn 9998 (dF 1).type (.int .u64 a) (.int .u64 b)).run Try.prog u = .ok (a == b) u := run_equalIn_int u 9997 (dF 1).type .u64 .u64 a b (by kernel_rfl)
theorem deqFs8 : (Op.eqFields 9998 #[.int .u32 a, .int .u64 b] #[.int .u32 c, .int .u64 d] (Try.prog.fieldsOf 43).toList).run Try.prog u = .ok ((a == c) && (b == d)) u := by
  rw [dFs]
  have h1 : (Op.eqFields 9998 #[.int .u32 a, .int .u64 b] #[.int .u32 c, .int .u64 d] [dF 1]).run Try.prog u = .ok (b == d) u := by
    simp only [Op.eqFields, if_pos dnm1, Sem.run_bind, dpt1, deqF1, Result.andThen_ok]
    cases (b == d) <;> simp
  rw [Op.eqFields, if_pos dnm0]
  simp only [Sem.run_bind, dpt0, deqF0, Result.andThen_ok]
  cases (a == c)
  · simp
  · simp only [Bool.not_true, Bool.false_eq_true, if_false, Bool.true_and]
    exact h1
theorem sbT0 : (sbF 0).type = 43 := by kernel_rfl
theorem sbeq0 : (Op.equalIn 9999 (sbF 0).type (.agg #[.int .u32 a, .int .u64 b]) (.agg #[.int .u32 c, .int .u64 d])).run Try.prog u = .ok ((a == c) && (b == d)) u := by
  rw [sbT0, run_equalIn_agg u 9998 43 _ _ (by kernel_rfl) (by kernel_rfl), deqFs8]
theorem sbeq1 : (Op.equalIn 9999 (sbF 1).type (.bool g) (.bool h)).run Try.prog u = .ok (g == h) u := run_equalIn_bool' u 9998 (sbF 1).type g h (by kernel_rfl)
theorem sbeq2 : (Op.equalIn 9999 (sbF 2).type (.string v) (.string w)).run Try.prog u = .ok (v.toList == w.toList) u := run_equalIn_string u 9998 (sbF 2).type v w (by kernel_rfl)
theorem sbeqFs : (Op.eqFields 9999 #[.int .u32 a, .int .u64 b, .bool g, .string v] #[.int .u32 c, .int .u64 d, .bool h, .string w] (Try.prog.fieldsOf 56).toList).run Try.prog u = .ok (((a == c) && (b == d)) && ((g == h) && (v.toList == w.toList))) u := by
  rw [sbFs]
  have h1 : (Op.eqFields 9999 #[.int .u32 a, .int .u64 b, .bool g, .string v] #[.int .u32 c, .int .u64 d, .bool h, .string w] [sbF 2]).run Try.prog u = .ok (v.toList == w.toList) u := by
    simp only [Op.eqFields, if_pos sbnm2, Sem.run_bind, sbpt2, sbeq2, Result.andThen_ok]
    cases (v.toList == w.toList) <;> simp
  have h2 : (Op.eqFields 9999 #[.int .u32 a, .int .u64 b, .bool g, .string v] #[.int .u32 c, .int .u64 d, .bool h, .string w] [sbF 1, sbF 2]).run Try.prog u = .ok ((g == h) && (v.toList == w.toList)) u := by
    rw [Op.eqFields, if_pos sbnm1]
    simp only [Sem.run_bind, sbpt1, sbeq1, Result.andThen_ok]
    cases (g == h)
    · simp
    · simp only [Bool.not_true, Bool.false_eq_true, if_false, Bool.true_and]
      exact h1
  rw [Op.eqFields, if_pos sbnm0]
  simp only [Sem.run_bind, sbpt0, sbeq0, Result.andThen_ok]
  cases ((a == c) && (b == d))
  · simp
  · simp only [Bool.not_true, Bool.false_eq_true, if_false, Bool.true_and]
    exact h2
end
open Classical in
noncomputable def eqB (x y : Sb) : Bool := decide (x = y)
open Classical in
theorem eqB_true {x y : Sb} : eqB x y = true ↔ x = y := by unfold eqB; exact decide_eq_true_iff
theorem eqB_false {x y : Sb} : eqB x y = false ↔ x ≠ y := by
  rw [← Bool.not_eq_true, eqB_true]
theorem list_beq (a b : ByteArray) : (a.toList == b.toList) = decide (a = b) := by
  rw [Bool.eq_iff_iff, beq_iff_eq, decide_eq_true_eq]
  exact ⟨ba_list, fun h => by rw [h]⟩
theorem sb_all (x y : Sb) : ((((x.a : Int) == (y.a : Int)) && ((x.c : Int) == (y.c : Int))) && ((x.gone == y.gone) && (x.val.toList == y.val.toList))) = eqB x y := by
  rw [beq_nat, beq_nat, list_beq, Bool.eq_iff_iff, eqB_true]
  simp only [Bool.and_eq_true, decide_eq_true_eq, beq_iff_eq]
  constructor
  · rintro ⟨⟨h1, h2⟩, h3, h4⟩; exact Sb.ext' h1 h2 h3 h4
  · rintro rfl; exact ⟨⟨rfl, rfl⟩, rfl, rfl⟩
theorem eqlS (x y : Sb) (u : World) : (binOp .eql 56 x.v y.v).run Try.prog u = .ok (.bool (eqB x y)) u := by
  unfold Sb.v
  rw [run_eql_struct, run_equalIn_agg u 9999 56 _ _ (by kernel_rfl) (by kernel_rfl), sbeqFs, sb_all]
  rfl
theorem neqS (x y : Sb) (u : World) : (binOp .neq 56 x.v y.v).run Try.prog u = .ok (.bool (!(eqB x y))) u := by
  unfold Sb.v
  rw [run_neq_struct, run_equalIn_agg u 9999 56 _ _ (by kernel_rfl) (by kernel_rfl), sbeqFs, sb_all]
  rfl
open Classical in
/-- may a content be -/
noncomputable def mayB (g : Bool) (v : ByteArray) : Bool := decide (if g then v.size = 0 else v.size ≤ 40)
theorem size_zero {v : ByteArray} : v.size = 0 ↔ v = ⟨#[]⟩ := by
  constructor
  · intro h
    cases v with | mk d => simp [ByteArray.size] at h; rw [h]
  · rintro rfl; rfl
set_option maxRecDepth 100000 in
set_option maxHeartbeats 2000000 in
theorem dMayBe (g : Bool) (v : ByteArray) (u : World) (hv : v.size ≤ 140737488355328) : Calls Try.prog 42 #[.agg #[.bool g, .string v]] u fun e u' => e = .returned (.bool (mayB g v)) ∧ Below u.heap.size u u' := by
  obtain ⟨N, hN⟩ : ∃ N, N = u.heap.size := ⟨_, rfl⟩
  have HN := hide hN
  rw [← hN]
  clear hN
  cases g with
  | true =>
    have he : ∀ W : World, (binOp .eql 70 (.agg #[.bool true, .string v]) (.agg #[.bool true, .string ⟨#[]⟩])).run Try.prog W = .ok (.bool (mayB true v)) W := fun W => by
      rw [eqlCt, list_beq]
      simp only [beq_self_eq_true, Bool.true_and]
      congr 2
      unfold mayB
      simp only [if_true]
      rw [Bool.eq_iff_iff, decide_eq_true_eq, decide_eq_true_eq, size_zero]
    generalize mayB true v = r at *
    go_enter Try.func42, Try.ntmps42
    go_wp2_with (first
      | ((with_reducible refine wpList_box_ct (by rfl) (.tmp 0) (by rfl) (some 1) (by rfl) N (unhide HN) true v (by with_unfolding_all rfl) ?_); intro W1 HX1 HB1 HS1; simp only [Act.put, List.setIfInBounds_toArray, List.set_cons_zero, List.set_cons_succ]; obtain ⟨y0, y1⟩ := box2 (unhide HX1))
      | fail)
    go_ret
    exact ⟨rfl, unhide HB1⟩
  | false =>
    rw [show mayB false v = decide (v.size ≤ 40) by unfold mayB; simp]
    have hvi : (v.size : Int) ≤ 140737488355328 := by omega
    by_cases h : v.size ≤ 40
    · have hi : (v.size : Int) ≤ 40 := by omega
      rw [decide_eq_true h]
      go_enter Try.func42, Try.ntmps42
      go_wp2_with (first
        | ((with_reducible refine wpList_box_ct (by rfl) (.tmp 0) (by rfl) (some 1) (by rfl) N (unhide HN) false v (by with_unfolding_all rfl) ?_); intro W1 HX1 HB1 HS1; simp only [Act.put, List.setIfInBounds_toArray, List.set_cons_zero, List.set_cons_succ]; obtain ⟨y0, y1⟩ := box2 (unhide HX1))
        | fail)
      go_ret
      exact ⟨rfl, unhide HB1⟩
    · have hi : ¬ (v.size : Int) ≤ 40 := by omega
      rw [decide_eq_false h]
      go_enter Try.func42, Try.ntmps42
      go_wp2_with (first
        | ((with_reducible refine wpList_box_ct (by rfl) (.tmp 0) (by rfl) (some 1) (by rfl) N (unhide HN) false v (by with_unfolding_all rfl) ?_); intro W1 HX1 HB1 HS1; simp only [Act.put, List.setIfInBounds_toArray, List.set_cons_zero, List.set_cons_succ]; obtain ⟨y0, y1⟩ := box2 (unhide HX1))
        | fail)
      go_ret
      exact ⟨rfl, unhide HB1⟩
set_option maxRecDepth 100000 in
set_option maxHeartbeats 2000000 in
theorem dBelowC (g h : Bool) (v w : ByteArray) (u : World) : Calls Try.prog 107 #[.agg #[.bool g, .string v], .agg #[.bool h, .string w]] u fun e u' => e = .returned (.bool (ctl g v h w)) ∧ Below u.heap.size u u' := by
  obtain ⟨N, hN⟩ : ∃ N, N = u.heap.size := ⟨_, rfl⟩
  have HN := hide hN
  rw [← hN]
  clear hN
  cases g <;> cases h
  · rw [show ctl false v false w = lt v w from rfl]
    go_enter Try.func107, Try.ntmps107
    go_wp2_with (first
      | ((with_reducible refine wpList_box_ct (by rfl) (.tmp 0) (by rfl) (some 2) (by rfl) N (unhide HN) false v (by with_unfolding_all rfl) ?_); intro W1 HX1 HB1 HS1; simp only [Act.put, List.setIfInBounds_toArray, List.set_cons_zero, List.set_cons_succ])
      | ((with_reducible refine wpList_box_ct (by rfl) (.tmp 1) (by rfl) (some 3) (by rfl) (N + 1) (unhide HS1).symm false w (by with_unfolding_all rfl) ?_); intro W2 HX2 HB2 HS2; simp only [Act.put, List.setIfInBounds_toArray, List.set_cons_zero, List.set_cons_succ]; obtain ⟨y0, y1⟩ := box2 (unhide HX2); obtain ⟨z0, z1⟩ := box2 (((unhide HB2).block N (Nat.lt_succ_self _)).trans (unhide HX1)))
      | fail)
    go_ret
    exact ⟨rfl, (unhide HB1).trans ((unhide HB2).mono (Nat.le_succ _))⟩
  · rw [show ctl false v true w = false from rfl]
    go_enter Try.func107, Try.ntmps107
    go_wp2_with (first
      | ((with_reducible refine wpList_box_ct (by rfl) (.tmp 0) (by rfl) (some 2) (by rfl) N (unhide HN) false v (by with_unfolding_all rfl) ?_); intro W1 HX1 HB1 HS1; simp only [Act.put, List.setIfInBounds_toArray, List.set_cons_zero, List.set_cons_succ])
      | ((with_reducible refine wpList_box_ct (by rfl) (.tmp 1) (by rfl) (some 3) (by rfl) (N + 1) (unhide HS1).symm true w (by with_unfolding_all rfl) ?_); intro W2 HX2 HB2 HS2; simp only [Act.put, List.setIfInBounds_toArray, List.set_cons_zero, List.set_cons_succ]; obtain ⟨y0, y1⟩ := box2 (unhide HX2); obtain ⟨z0, z1⟩ := box2 (((unhide HB2).block N (Nat.lt_succ_self _)).trans (unhide HX1)))
      | fail)
    go_ret
    exact ⟨rfl, (unhide HB1).trans ((unhide HB2).mono (Nat.le_succ _))⟩
  · rw [show ctl true v false w = true from rfl]
    go_enter Try.func107, Try.ntmps107
    go_wp2_with (first
      | ((with_reducible refine wpList_box_ct (by rfl) (.tmp 0) (by rfl) (some 2) (by rfl) N (unhide HN) true v (by with_unfolding_all rfl) ?_); intro W1 HX1 HB1 HS1; simp only [Act.put, List.setIfInBounds_toArray, List.set_cons_zero, List.set_cons_succ])
      | ((with_reducible refine wpList_box_ct (by rfl) (.tmp 1) (by rfl) (some 3) (by rfl) (N + 1) (unhide HS1).symm false w (by with_unfolding_all rfl) ?_); intro W2 HX2 HB2 HS2; simp only [Act.put, List.setIfInBounds_toArray, List.set_cons_zero, List.set_cons_succ]; obtain ⟨y0, y1⟩ := box2 (unhide HX2); obtain ⟨z0, z1⟩ := box2 (((unhide HB2).block N (Nat.lt_succ_self _)).trans (unhide HX1)))
      | fail)
    go_ret
    exact ⟨rfl, (unhide HB1).trans ((unhide HB2).mono (Nat.le_succ _))⟩
  · rw [show ctl true v true w = lt v w from rfl]
    go_enter Try.func107, Try.ntmps107
    go_wp2_with (first
      | ((with_reducible refine wpList_box_ct (by rfl) (.tmp 0) (by rfl) (some 2) (by rfl) N (unhide HN) true v (by with_unfolding_all rfl) ?_); intro W1 HX1 HB1 HS1; simp only [Act.put, List.setIfInBounds_toArray, List.set_cons_zero, List.set_cons_succ])
      | ((with_reducible refine wpList_box_ct (by rfl) (.tmp 1) (by rfl) (some 3) (by rfl) (N + 1) (unhide HS1).symm true w (by with_unfolding_all rfl) ?_); intro W2 HX2 HB2 HS2; simp only [Act.put, List.setIfInBounds_toArray, List.set_cons_zero, List.set_cons_succ]; obtain ⟨y0, y1⟩ := box2 (unhide HX2); obtain ⟨z0, z1⟩ := box2 (((unhide HB2).block N (Nat.lt_succ_self _)).trans (unhide HX1)))
      | fail)
    go_ret
    exact ⟨rfl, (unhide HB1).trans ((unhide HB2).mono (Nat.le_succ _))⟩
end Go.Proofs.Ytbahfpcfjhifbaa
