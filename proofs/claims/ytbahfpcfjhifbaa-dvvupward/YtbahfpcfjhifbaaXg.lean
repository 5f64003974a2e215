/- Vectors: are two lists of dots one. -/
import Derived.Test.YtbahfpcfjhifbaaXf
namespace Go.Proofs.Ytbahfpcfjhifbaa
open Go.RowKit
noncomputable def dF (i : Nat) : Field := (Try.prog.fieldsOf 43).getD i default
theorem dFs : (Try.prog.fieldsOf 43).toList = [dF 0, dF 1] := by kernel_rfl
theorem dnm0 : (dF 0).name ≠ "_" := of_decide_eq_true (by kernel_rfl)
theorem dnm1 : (dF 1).name ≠ "_" := of_decide_eq_true (by kernel_rfl)
section
variable (a b c d : Int) (u : World)
theorem dpt0 : (part (dF 0).type #[.int .u32 a, .int .u64 b] (dF 0).offset).run Try.prog u = .ok (.int .u32 a) u := by kernel_rfl
theorem dpt1 : (part (dF 1).type #[.int .u32 a, .int .u64 b] (dF 1).offset).run Try.prog u = .ok (.int .u64 b) u := by kernel_rfl
theorem deq0 : (Op.equalIn 9999 (dF 0).type (.int .u32 a) (.int .u32 b)).run Try.prog u = .ok (a == b) u := run_equalIn_int u 9998 (dF 0).type .u32 .u32 a b (by kernel_rfl)
theorem deq1 : (Op.equalIn 9999 (dF 1).type (.int .u64 a) (.int .u64 b)).run Try.prog u = .ok (a == b) u := run_equalIn_int u 9998 (dF 1).type .u64 .u64 a b (by kernel_rfl)
theorem deqFs : (Op.eqFields 9999 #[.int .u32 a, .int .u64 b] #[.int .u32 c, .int .u64 d] (Try.prog.fieldsOf 43).toList).run Try.prog u = .ok ((a == c) && (b == d)) u := by
  rw [dFs]
  have h1 : (Op.eqFields 9999 #[.int .u32 a, .int .u64 b] #[.int .u32 c, .int .u64 d] [dF 1]).run Try.prog u = .ok (b == d) u := by
    simp only [Op.eqFields, if_pos dnm1, Sem.run_bind, dpt1, deq1, Result.andThen_ok]
    cases (b == d) <;> simp
  rw [Op.eqFields, if_pos dnm0]
  simp only [Sem.run_bind, dpt0, deq0, Result.andThen_ok]
  cases (a == c)
  · simp
  · simp only [Bool.not_true, Bool.false_eq_true, if_false, Bool.true_and]
    exact h1
theorem eqlD : (binOp .eql 43 (.agg #[.int .u32 a, .int .u64 b]) (.agg #[.int .u32 c, .int .u64 d])).run Try.prog u = .ok (.bool ((a == c) && (b == d))) u := by
  rw [run_eql_struct, run_equalIn_agg u 9999 43 _ _ (by kernel_rfl) (by kernel_rfl), deqFs]
  rfl
theorem neqD : (binOp .neq 43 (.agg #[.int .u32 a, .int .u64 b]) (.agg #[.int .u32 c, .int .u64 d])).run Try.prog u = .ok (.bool (!((a == c) && (b == d)))) u := by
  rw [run_neq_struct, run_equalIn_agg u 9999 43 _ _ (by kernel_rfl) (by kernel_rfl), deqFs]
  rfl
end
theorem beq_nat (a b : Nat) : ((a : Int) == (b : Int)) = decide (a = b) := by
  rw [Bool.eq_iff_iff]; simp only [beq_iff_eq, decide_eq_true_eq]; omega
theorem list_ext {l m : List (Nat × Nat)} (h : l.length = m.length) (he : ∀ j (h1 : j < l.length) (h2 : j < m.length), l[j] = m[j]) : l = m := List.ext_getElem h he
set_option maxRecDepth 100000 in
set_option maxHeartbeats 2000000 in
theorem vEqual (l m : List (Nat × Nat)) (ao bo : Option Addr) (c d : Nat) (u : World) (h : DAt u l ao) (h2 : DAt u m bo) : Calls Try.prog 46 #[.slice ao l.length c, .slice bo m.length d] u fun e u' => e = .returned (.bool (decide (l = m))) ∧ ∃ z, u' = u.drewN z := by
  have hl0 := h.len
  have HQ := hide h.lies
  have HP := hide h2.lies
  clear h h2
  by_cases hlm : l.length = m.length
  · have HE : Hid (∀ j (h1 : j < l.length) (h2 : j < m.length), l[j] ≠ m[j] → decide (l = m) = false) := fun j h1 h2 hn => decide_eq_false fun e => hn (by subst e; rfl)
    have HT : Hid ((∀ j (h1 : j < l.length) (h2 : j < m.length), l[j] = m[j]) → decide (l = m) = true) := fun he => decide_eq_true (list_ext hlm he)
    generalize decide (l = m) = ok at *
    obtain ⟨n, hn⟩ : ∃ n, n = l.length := ⟨_, rfl⟩
    have HLN := hide hn
    have HMN : Hid (n = m.length) := hn.trans hlm
    rw [show m.length = n from (unhide HMN).symm]
    rw [← hn] at hl0 ⊢
    have hni : (n : Int) ≤ 140737488355328 := by omega
    clear hn hl0 hlm
    go_enter Try.func46, Try.ntmps46
    go_wp2
    go_loopw [13] (fun i wr => ∃ k : Nat, k ≤ n ∧ i = .int .i64 k ∧ Hid (∃ z, wr = u.drewN z) ∧ Hid (∀ j (h1 : j < l.length) (h2 : j < m.length), j < k → l[j] = m[j])) (fun i _ => n - (intOf i).toNat)
    case atStart => exact ⟨0, Nat.zero_le _, rfl, ⟨0, rfl⟩, fun j _ _ hj => absurd hj (Nat.not_lt_zero _)⟩
    case round =>
      obtain ⟨k, hk, rfl, HI, HJ⟩ := hrel
      obtain ⟨z, rfl⟩ := unhide HI
      clear HI
      by_cases hlt : k < n
      · have hki : (k : Int) < (n : Int) := by omega
        have hkl : k < l.length := by rw [← unhide HLN]; exact hlt
        have hkm : k < m.length := by rw [← unhide HMN]; exact hlt
        obtain ⟨g, o, hao, c1, c2⟩ := (unhide HQ).dt hkl
        obtain ⟨g2, o2, hao2, d1, d2⟩ := (unhide HP).dt hkm
        subst hao hao2
        have hix := ixD g o n c k hlt
        have hix2 := ixD g2 o2 n d k hlt
        have HE1 := hide (unhide HE k hkl hkm)
        have HR : Hid (l[k] = m[k] → ∀ j (h1 : j < l.length) (h2 : j < m.length), j < k + 1 → l[j] = m[j]) := fun hg j hj hj2 hjk => by
          rcases Nat.lt_succ_iff_lt_or_eq.1 hjk with h | rfl
          · exact unhide HJ j hj hj2 h
          · exact hg
        clear HE HJ
        generalize l[k] = q at *
        generalize m[k] = p at *
        obtain ⟨qa, qc⟩ := q
        obtain ⟨pa, pc⟩ := p
        have c1 : u.cell? ⟨g, o + k * 2, none⟩ = some (.int .u32 (qa : Int)) := c1
        have c2 : u.cell? ⟨g, o + k * 2 + 1, none⟩ = some (.int .u64 (qc : Int)) := c2
        have d1 : u.cell? ⟨g2, o2 + k * 2, none⟩ = some (.int .u32 (pa : Int)) := d1
        have d2 : u.cell? ⟨g2, o2 + k * 2 + 1, none⟩ = some (.int .u64 (pc : Int)) := d2
        generalize o + k * 2 = j1 at *
        generalize o2 + k * 2 = j2 at *
        by_cases hqp : (qa, qc) = (pa, pc)
        · have HG := hide (unhide HR hqp)
          cases hqp
          have heq : ∀ W : World, (binOp .neq 43 (.agg #[.int .u32 (qa : Int), .int .u64 (qc : Int)]) (.agg #[.int .u32 (qa : Int), .int .u64 (qc : Int)])).run Try.prog W = .ok (.bool false) W := fun W => by rw [neqD]; simp
          go_wp2_with fail
          go_quiet (fail)
          go_wp2
          go_roundw
          case rel => exact ⟨k + 1, by omega, by go_num, ⟨z + nq, rfl⟩, unhide HG⟩
          case measure => simp [intOf]; omega
        · have HB := hide (unhide HE1 hqp)
          have heq : ∀ W : World, (binOp .neq 43 (.agg #[.int .u32 (qa : Int), .int .u64 (qc : Int)]) (.agg #[.int .u32 (pa : Int), .int .u64 (pc : Int)])).run Try.prog W = .ok (.bool true) W := fun W => by
            rw [neqD, beq_nat, beq_nat, ← Bool.decide_and, decide_eq_false (fun ⟨h1, h2⟩ => hqp (by rw [h1, h2]))]
            rfl
          go_wp2_with fail
          go_quiet (fail)
          go_wp2
          go_ret
          exact ⟨by rw [unhide HB]; rfl, z + nq, by simp [World.drewN_drewN]⟩
      · obtain rfl : k = n := by omega
        have hki : ¬ (k : Int) < (k : Int) := by omega
        have HB := hide (unhide HT fun j h1 h2 => unhide HJ j h1 h2 (by rw [unhide HLN]; exact h1))
        go_wp2
        go_ret
        exact ⟨by rw [unhide HB]; rfl, z, rfl⟩
  · rw [decide_eq_false (fun e : l = m => hlm (by rw [e]))]
    have hi : ¬ (l.length : Int) = (m.length : Int) := by omega
    go_enter Try.func46, Try.ntmps46
    go_wp2
    go_ret
    exact ⟨rfl, 0, rfl⟩
set_option maxRecDepth 100000 in
set_option maxHeartbeats 2000000 in
theorem rSame (l m : List (Nat × Nat)) (ao bo : Option Addr) (c d : Nat) (u : World) (h : DAt u l ao) (h2 : DAt u m bo) : Calls Try.prog 48 #[.slice ao l.length c, .slice bo m.length d] u fun e u' => e = .returned (.bool (decide (l = m))) ∧ ∃ z, u' = u.drewN z := by
  have hl0 := h.len
  have HQ := hide h.lies
  have HP := hide h2.lies
  clear h h2
  by_cases hlm : l.length = m.length
  · have HE : Hid (∀ j (h1 : j < l.length) (h2 : j < m.length), l[j] ≠ m[j] → decide (l = m) = false) := fun j h1 h2 hn => decide_eq_false fun e => hn (by subst e; rfl)
    have HT : Hid ((∀ j (h1 : j < l.length) (h2 : j < m.length), l[j] = m[j]) → decide (l = m) = true) := fun he => decide_eq_true (list_ext hlm he)
    generalize decide (l = m) = ok at *
    obtain ⟨n, hn⟩ : ∃ n, n = l.length := ⟨_, rfl⟩
    have HLN := hide hn
    have HMN : Hid (n = m.length) := hn.trans hlm
    rw [show m.length = n from (unhide HMN).symm]
    rw [← hn] at hl0 ⊢
    have hni : (n : Int) ≤ 140737488355328 := by omega
    clear hn hl0 hlm
    go_enter Try.func48, Try.ntmps48
    go_wp2
    go_loopw [5] (fun i wr => ∃ k : Nat, k ≤ n ∧ i = .int .i64 k ∧ Hid (∃ z, wr = u.drewN z) ∧ Hid (∀ j (h1 : j < l.length) (h2 : j < m.length), j < k → l[j] = m[j])) (fun i _ => n - (intOf i).toNat)
    case atStart => exact ⟨0, Nat.zero_le _, rfl, ⟨0, rfl⟩, fun j _ _ hj => absurd hj (Nat.not_lt_zero _)⟩
    case round =>
      obtain ⟨k, hk, rfl, HI, HJ⟩ := hrel
      obtain ⟨z, rfl⟩ := unhide HI
      clear HI
      by_cases hlt : k < n
      · have hki : (k : Int) < (n : Int) := by omega
        have hkl : k < l.length := by rw [← unhide HLN]; exact hlt
        have hkm : k < m.length := by rw [← unhide HMN]; exact hlt
        obtain ⟨g, o, hao, c1, c2⟩ := (unhide HQ).dt hkl
        obtain ⟨g2, o2, hao2, d1, d2⟩ := (unhide HP).dt hkm
        subst hao hao2
        have hix := ixD g o n c k hlt
        have hix2 := ixD g2 o2 n d k hlt
        have HE1 := hide (unhide HE k hkl hkm)
        have HR : Hid (l[k] = m[k] → ∀ j (h1 : j < l.length) (h2 : j < m.length), j < k + 1 → l[j] = m[j]) := fun hg j hj hj2 hjk => by
          rcases Nat.lt_succ_iff_lt_or_eq.1 hjk with h | rfl
          · exact unhide HJ j hj hj2 h
          · exact hg
        clear HE HJ
        generalize l[k] = q at *
        generalize m[k] = p at *
        obtain ⟨qa, qc⟩ := q
        obtain ⟨pa, pc⟩ := p
        have c1 : u.cell? ⟨g, o + k * 2, none⟩ = some (.int .u32 (qa : Int)) := c1
        have c2 : u.cell? ⟨g, o + k * 2 + 1, none⟩ = some (.int .u64 (qc : Int)) := c2
        have d1 : u.cell? ⟨g2, o2 + k * 2, none⟩ = some (.int .u32 (pa : Int)) := d1
        have d2 : u.cell? ⟨g2, o2 + k * 2 + 1, none⟩ = some (.int .u64 (pc : Int)) := d2
        generalize o + k * 2 = j1 at *
        generalize o2 + k * 2 = j2 at *
        by_cases hqp : (qa, qc) = (pa, pc)
        · have HG := hide (unhide HR hqp)
          cases hqp
          have heq : ∀ W : World, (binOp .neq 43 (.agg #[.int .u32 (qa : Int), .int .u64 (qc : Int)]) (.agg #[.int .u32 (qa : Int), .int .u64 (qc : Int)])).run Try.prog W = .ok (.bool false) W := fun W => by rw [neqD]; simp
          go_wp2_with fail
          go_quiet (fail)
          go_wp2
          go_roundw
          case rel => exact ⟨k + 1, by omega, by go_num, ⟨z + nq, rfl⟩, unhide HG⟩
          case measure => simp [intOf]; omega
        · have HB := hide (unhide HE1 hqp)
          have heq : ∀ W : World, (binOp .neq 43 (.agg #[.int .u32 (qa : Int), .int .u64 (qc : Int)]) (.agg #[.int .u32 (pa : Int), .int .u64 (pc : Int)])).run Try.prog W = .ok (.bool true) W := fun W => by
            rw [neqD, beq_nat, beq_nat, ← Bool.decide_and, decide_eq_false (fun ⟨h1, h2⟩ => hqp (by rw [h1, h2]))]
            rfl
          go_wp2_with fail
          go_quiet (fail)
          go_wp2
          go_ret
          exact ⟨by rw [unhide HB]; rfl, z + nq, by simp [World.drewN_drewN]⟩
      · obtain rfl : k = n := by omega
        have hki : ¬ (k : Int) < (k : Int) := by omega
        have HB := hide (unhide HT fun j h1 h2 => unhide HJ j h1 h2 (by rw [unhide HLN]; exact h1))
        go_wp2
        go_ret
        exact ⟨by rw [unhide HB]; rfl, z, rfl⟩
  · rw [decide_eq_false (fun e : l = m => hlm (by rw [e]))]
    have hi : ¬ (l.length : Int) = (m.length : Int) := by omega
    go_enter Try.func48, Try.ntmps48
    go_wp2
    go_ret
    exact ⟨rfl, 0, rfl⟩
end Go.Proofs.Ytbahfpcfjhifbaa
