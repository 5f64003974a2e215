/- JournalWhole: the same was found. -/
import Derived.Test.YtfdfbjijomepgaaDoorJx
namespace Go.Proofs.YtfdfbjijomepgaaDoor
open Go.RowKit

noncomputable def pgF (i : Nat) : Field := (Tryd.prog.fieldsOf 70).getD i default
theorem pgFs : (Tryd.prog.fieldsOf 70).toList = [pgF 0, pgF 1, pgF 2, pgF 3] := by kernel_rfl
theorem nm0 : (pgF 0).name ≠ "_" := of_decide_eq_true (by kernel_rfl)
theorem nm1 : (pgF 1).name ≠ "_" := of_decide_eq_true (by kernel_rfl)
theorem nm2 : (pgF 2).name ≠ "_" := of_decide_eq_true (by kernel_rfl)
theorem nm3 : (pgF 3).name ≠ "_" := of_decide_eq_true (by kernel_rfl)
section
variable (a b c : Int) (s : ByteArray) (u : World)
theorem pt0 : (part (pgF 0).type #[.int .u8 a, .int .u32 b, .int .u64 c, .string s] (pgF 0).offset).run Tryd.prog u = .ok (.int .u8 a) u := by kernel_rfl
theorem pt1 : (part (pgF 1).type #[.int .u8 a, .int .u32 b, .int .u64 c, .string s] (pgF 1).offset).run Tryd.prog u = .ok (.int .u32 b) u := by kernel_rfl
theorem pt2 : (part (pgF 2).type #[.int .u8 a, .int .u32 b, .int .u64 c, .string s] (pgF 2).offset).run Tryd.prog u = .ok (.int .u64 c) u := by kernel_rfl
theorem pt3 : (part (pgF 3).type #[.int .u8 a, .int .u32 b, .int .u64 c, .string s] (pgF 3).offset).run Tryd.prog u = .ok (.string s) u := by kernel_rfl
theorem eq0 : (Op.equalIn 9999 (pgF 0).type (.int .u8 a) (.int .u8 a)).run Tryd.prog u = .ok true u := by
  rw [run_equalIn_int u 9998 (pgF 0).type .u8 .u8 a a (by kernel_rfl), beq_self_eq_true]
theorem eq1 : (Op.equalIn 9999 (pgF 1).type (.int .u32 a) (.int .u32 a)).run Tryd.prog u = .ok true u := by
  rw [run_equalIn_int u 9998 (pgF 1).type .u32 .u32 a a (by kernel_rfl), beq_self_eq_true]
theorem eq2 : (Op.equalIn 9999 (pgF 2).type (.int .u64 a) (.int .u64 a)).run Tryd.prog u = .ok true u := by
  rw [run_equalIn_int u 9998 (pgF 2).type .u64 .u64 a a (by kernel_rfl), beq_self_eq_true]
theorem eq3 : (Op.equalIn 9999 (pgF 3).type (.string s) (.string s)).run Tryd.prog u = .ok true u := by
  rw [run_equalIn_string u 9998 (pgF 3).type s s (by kernel_rfl), beq_self_eq_true]
theorem eqFs : (Op.eqFields 9999 #[.int .u8 a, .int .u32 b, .int .u64 c, .string s] #[.int .u8 a, .int .u32 b, .int .u64 c, .string s] (Tryd.prog.fieldsOf 70).toList).run Tryd.prog u = .ok true u := by
  rw [pgFs]
  simp only [Op.eqFields, if_pos nm0, if_pos nm1, if_pos nm2, if_pos nm3, Sem.run_bind, pt0, pt1, pt2, pt3, eq0, eq1, eq2, eq3, Result.andThen_ok, Bool.not_true, Bool.false_eq_true, if_false, Sem.run_pure]
theorem neqPg : (binOp .neq 70 (.agg #[.int .u8 a, .int .u32 b, .int .u64 c, .string s]) (.agg #[.int .u8 a, .int .u32 b, .int .u64 c, .string s])).run Tryd.prog u = .ok (.bool false) u := by
  rw [run_neq_struct, run_equalIn_agg u 9999 70 _ _ (by kernel_rfl) (by kernel_rfl), eqFs]
  rfl
theorem eqlPg : (binOp .eql 70 (.agg #[.int .u8 a, .int .u32 b, .int .u64 c, .string s]) (.agg #[.int .u8 a, .int .u32 b, .int .u64 c, .string s])).run Tryd.prog u = .ok (.bool true) u := by
  rw [run_eql_struct, run_equalIn_agg u 9999 70 _ _ (by kernel_rfl) (by kernel_rfl), eqFs]
  rfl
end
set_option maxRecDepth 100000 in
set_option maxHeartbeats 2000000 in
theorem lSame (ta tb sr : Nat) (L : List Pg) (n : Nat) (hnn : n = L.length) (hn : n ≤ 4096) (Ga Gb : Nat) (w : World) (ha : Pgs w (some ⟨Ga, 0, none⟩) L) (hb : Pgs w (some ⟨Gb, 0, none⟩) L) :
    Calls Tryd.prog 23 #[.agg #[.int .u64 (ta : Int), .bool true, .int .u64 (sr : Int), .slice (some ⟨Ga, 0, none⟩) n n], .agg #[.int .u64 (tb : Int), .bool true, .int .u64 (sr : Int), .slice (some ⟨Gb, 0, none⟩) n n]] w fun e w' => e = .returned (.bool true) ∧ Below w.heap.size w w' := by
  obtain ⟨N, hN⟩ : ∃ N, N = w.heap.size := ⟨_, rfl⟩
  have HN := hide hN
  have HNN := hide hnn
  have HA := hide ha
  have HB := hide hb
  have hni : (n : Int) ≤ 4096 := by omega
  rw [← hN]
  clear hN hnn ha hb
  go_enter Tryd.func23, Tryd.ntmps23
  go_wp2_with (first
    | (refine wpList_box_row (by rfl) 44 (.tmp 0) (by rfl) (some 2) (by rfl) N (by exact (unhide HN).symm) #[.int .u64 (ta : Int), .bool true, .int .u64 (sr : Int), .slice (some ⟨Ga, 0, none⟩) n n] (by rfl) ?_; intro W1 HX1 HB1 HS1; simp only [Act.put, List.setIfInBounds_toArray, List.set_cons_zero, List.set_cons_succ])
    | (refine wpList_box_row (by rfl) 44 (.tmp 1) (by rfl) (some 3) (by rfl) (N + 1) (by exact unhide HS1) #[.int .u64 (tb : Int), .bool true, .int .u64 (sr : Int), .slice (some ⟨Gb, 0, none⟩) n n] (by rfl) ?_; intro W2 HX2 HB2 HS2; simp only [Act.put, List.setIfInBounds_toArray, List.set_cons_zero, List.set_cons_succ]
       have HX3 : Hid (W2.heap[N]? = some (.cells #[.int .u64 (ta : Int), .bool true, .int .u64 (sr : Int), .slice (some ⟨Ga, 0, none⟩) n n] 44 (0, 0))) := ((unhide HB2).block N (by omega)).trans (unhide HX1)
       have c1 : W2.cell? ⟨N, 1, none⟩ = some (.bool true) := (by rw [cell_of_row W2 N 1 _ _ _ (unhide HX3)]; rfl)
       have c2 : W2.cell? ⟨N, 2, none⟩ = some (.int .u64 (sr : Int)) := (by rw [cell_of_row W2 N 2 _ _ _ (unhide HX3)]; rfl)
       have c3 : W2.cell? ⟨N, 3, none⟩ = some (.slice (some ⟨Ga, 0, none⟩) n n) := (by rw [cell_of_row W2 N 3 _ _ _ (unhide HX3)]; rfl)
       have e1 : W2.cell? ⟨N + 1, 1, none⟩ = some (.bool true) := (by rw [cell_of_row W2 (N + 1) 1 _ _ _ (unhide HX2)]; rfl)
       have e2 : W2.cell? ⟨N + 1, 2, none⟩ = some (.int .u64 (sr : Int)) := (by rw [cell_of_row W2 (N + 1) 2 _ _ _ (unhide HX2)]; rfl)
       have e3 : W2.cell? ⟨N + 1, 3, none⟩ = some (.slice (some ⟨Gb, 0, none⟩) n n) := (by rw [cell_of_row W2 (N + 1) 3 _ _ _ (unhide HX2)]; rfl)))
  have HI0 : Hid (W2.cell? ⟨N, 3, none⟩ = some (.slice (some ⟨Ga, 0, none⟩) n n) ∧ W2.cell? ⟨N + 1, 3, none⟩ = some (.slice (some ⟨Gb, 0, none⟩) n n) ∧ Below N w W2) := ⟨c3, e3, (unhide HB1).trans ((unhide HB2).mono (by omega))⟩
  clear HX1 HB1 HS1 HX2 HB2 HS2 HX3 c1 c2 c3 e1 e2 e3
  go_loopw [5] (fun i wr => ∃ k : Nat, k ≤ n ∧ i = .int .i64 k ∧ Hid (wr.cell? ⟨N, 3, none⟩ = some (.slice (some ⟨Ga, 0, none⟩) n n) ∧ wr.cell? ⟨N + 1, 3, none⟩ = some (.slice (some ⟨Gb, 0, none⟩) n n) ∧ Below N w wr)) (fun i _ => n - (intOf i).toNat)
  case atStart => exact ⟨0, Nat.zero_le _, rfl, unhide HI0⟩
  case round =>
    clear HI0
    obtain ⟨k, hk, rfl, HI⟩ := hrel
    obtain ⟨c3, e3, hbel⟩ := unhide HI
    by_cases hlt : k < n
    · have hki : (k : Int) < (n : Int) := by omega
      have hkl : k < L.length := by rw [← unhide HNN]; exact hlt
      have hbw : Below w.heap.size w wr := by rw [← unhide HN]; exact hbel
      obtain ⟨g, o, hao, hra, _⟩ := ((unhide HA).below hbw).slot k hkl
      cases hao
      obtain ⟨g, o, hao, hrb, _⟩ := ((unhide HB).below hbw).slot k hkl
      cases hao
      rw [Nat.zero_add] at hra hrb
      have hix := ixPages Ga 0 n n k hlt
      have hix2 := ixPages Gb 0 n n k hlt
      rw [Nat.zero_add] at hix hix2
      generalize slotD L k = q at *
      obtain ⟨qk, qn, qs, qb⟩ := q
      have hneq := neqPg (qk : Int) (qn : Int) (qs : Int) qb
      generalize k * 4 = j4 at *
      have x0 : wr.cell? ⟨Ga, j4, none⟩ = some (.int .u8 (qk : Int)) := hra 0 _ rfl
      have x1 : wr.cell? ⟨Ga, j4 + 1, none⟩ = some (.int .u32 (qn : Int)) := hra 1 _ rfl
      have x2 : wr.cell? ⟨Ga, j4 + 2, none⟩ = some (.int .u64 (qs : Int)) := hra 2 _ rfl
      have x3 : wr.cell? ⟨Ga, j4 + 3, none⟩ = some (.string qb) := hra 3 _ rfl
      have y0 : wr.cell? ⟨Gb, j4, none⟩ = some (.int .u8 (qk : Int)) := hrb 0 _ rfl
      have y1 : wr.cell? ⟨Gb, j4 + 1, none⟩ = some (.int .u32 (qn : Int)) := hrb 1 _ rfl
      have y2 : wr.cell? ⟨Gb, j4 + 2, none⟩ = some (.int .u64 (qs : Int)) := hrb 2 _ rfl
      have y3 : wr.cell? ⟨Gb, j4 + 3, none⟩ = some (.string qb) := hrb 3 _ rfl
      clear hra hrb
      go_wp2
      go_quiet (fail)
      go_wp2
      go_roundw
      case rel => exact ⟨k + 1, by omega, by go_num, c3, e3, belowDN hbel _⟩
      case measure => simp [intOf]; omega
    · obtain rfl : k = n := by omega
      have hki : ¬ (k : Int) < (k : Int) := by omega
      go_wp2
      go_ret
      exact ⟨rfl, hbel⟩
end Go.Proofs.YtfdfbjijomepgaaDoor
