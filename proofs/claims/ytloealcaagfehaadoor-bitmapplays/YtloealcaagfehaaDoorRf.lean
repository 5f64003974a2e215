/- The document's set out of bytes. -/
import Derived.Test.YtloealcaagfehaaDoorRt
import Derived.Test.YtloealcaagfehaaDoorBf
namespace Go.Proofs.YtloealcaagfehaaDoor
open Go.RowKit

namespace Bit
theorem num_bit (l : List UInt8) (i : Nat) : (num l).testBit i = decide ((l.getD (i / 8) 0).toNat / 2 ^ (i % 8) % 2 = 1) := by
  rw [← num_byte, ← Nat.testBit_eq_decide_div_mod_eq, byte_bit, show 8 * (i / 8) + i % 8 = i from by omega]
  have : i % 8 < 8 := by omega
  simp [this]
theorem told_num {l : List UInt8} {n : Nat} (h : l.length = (n + 7) / 8) : told (num l) n = l := by
  apply List.ext_getElem
  · rw [told_length, h]
  · intro i h1 h2
    have h3 := told_at (num l) n i (by rw [told_length] at h1; exact h1)
    rw [List.getElem?_eq_getElem h1, Option.some.injEq] at h3
    rw [h3, num_byte, List.getD_eq_getElem?_getD, List.getElem?_eq_getElem h2]
    simp
/-- bytes that are a set -/
def Good (l : List UInt8) (n : Nat) : Prop := l.length = (n + 7) / 8 ∧ num l < 2 ^ n
theorem told_good (l : List UInt8) (n : Nat) : told (num l % 2 ^ n) n = l ↔ Good l n := by
  constructor
  · intro h
    have h1 : l.length = (n + 7) / 8 := by rw [← h, told_length]
    refine ⟨h1, ?_⟩
    have h2 : num (told (num l % 2 ^ n) n) = num l % 2 ^ n := num_told (Nat.mod_lt _ (Nat.pow_pos (by decide)))
    rw [h] at h2
    rw [h2]
    exact Nat.mod_lt _ (Nat.pow_pos (by decide))
  · rintro ⟨h1, h2⟩
    rw [Nat.mod_eq_of_lt h2, told_num h1]
theorem mod_step_bit (N k i : Nat) (hi : i ≠ k) : (N % 2 ^ (k + 1)).testBit i = (N % 2 ^ k).testBit i := by
  rw [Nat.testBit_mod_two_pow, Nat.testBit_mod_two_pow]
  have e : (i < k + 1) ↔ (i < k) := by omega
  simp only [e]
end Bit
theorem bytes_toList (s : ByteArray) : s.toList = s.data.toList := by
  rw [ByteArray.toList_eq]
theorem rFromArg (x : Int) (hx : x < 0 ∨ 65536 < x) (s : ByteArray) (w : World) : Calls Tryd.prog 19 #[.int .i64 x, .string s] w fun e w' => e = .returned (.tuple #[.pointer none, .int .i64 1]) ∧ w' = w := by
  have HN := hide (fun u => rNewBad x hx u)
  clear hx
  go_enter Tryd.func19, Tryd.ntmps19
  go_wp2_with (go_at_call 42; refine (unhide HN _).mono ?_; rintro e w1 ⟨rfl, hw1⟩; obtain rfl := hw1.symm; clear hw1)
  go_ret2
  exact ⟨rfl, rfl⟩
set_option maxRecDepth 100000 in
set_option maxHeartbeats 2000000 in
theorem rFrom (n : Nat) (hn : n ≤ 65536) (s : ByteArray) (hs : s.size ≤ 9223372036854775807) (w : World) :
    Calls Tryd.prog 19 #[.int .i64 (n : Int), .string s] w fun e w' => Below w.heap.size w w' ∧ ((Bit.Good s.data.toList n ∧ ∃ p q, e = .returned (.tuple #[.pointer (some ⟨p, 0, none⟩), .int .i64 0]) ∧ w.heap.size ≤ p ∧ w.heap.size ≤ q ∧ Rm w' p q n (Bit.num s.data.toList)) ∨ (¬ Bit.Good s.data.toList n ∧ e = .returned (.tuple #[.pointer none, .int .i64 4]))) := by
  obtain ⟨N, hN⟩ : ∃ N, N = Bit.num s.data.toList := ⟨_, rfl⟩
  have hsl : s.data.toList.length = s.size := Array.length_toList
  have HSL := hide hsl
  have HN := hide hN
  clear hN hsl
  have hsi : (s.size : Int) ≤ 9223372036854775807 := by omega
  go_enter Tryd.func19, Tryd.ntmps19
  go_wp2_with (go_at_call 42; refine (rNew n hn _).mono ?_; rintro e w1 ⟨p, q, rfl, hp, hq, hm, hb⟩; have HP := hide hp; have HQ := hide hq; have HM := hide hm; have HW := hide hb; clear hp hq hm hb)
  go_loopw [8] (fun i wr => ∃ k : Nat, k ≤ n ∧ i = .int .i64 k ∧ Hid (Rm wr p q n (N % 2 ^ k) ∧ Below w.heap.size w wr)) (fun i _ => n - (intOf i).toNat)
  case atStart => exact ⟨0, Nat.zero_le _, rfl, hide ⟨by rw [Nat.pow_zero, Nat.mod_one]; exact unhide HM, unhide HW⟩⟩
  case round =>
    clear HM HW
    obtain ⟨k, hk, rfl, HI⟩ := hrel
    have HB0 := hide (unhide HI).2
    have HR0 := hide (unhide HI).1
    clear HI
    obtain ⟨a, ha⟩ : ∃ a, a = k / 8 := ⟨_, rfl⟩
    have e1 : (k : Int) / 8 = (a : Int) := by omega
    by_cases hgo : k < n ∧ a < s.size
    · obtain ⟨hlt, hlas⟩ := hgo
      have hki : (k : Int) < (n : Int) := by omega
      have hai : (a : Int) < (s.size : Int) := by omega
      obtain ⟨cap, hc0⟩ := (unhide HR0).c0
      have hcb := (unhide HR0).b k hlt
      have hfz := (unhide HR0).fz k
      obtain ⟨b0, hb0⟩ : ∃ b0, b0 = (N % 2 ^ k).testBit k := ⟨_, rfl⟩
      rw [← hb0] at hcb
      clear hb0
      obtain ⟨r, hr⟩ : ∃ r, r = k % 8 := ⟨_, rfl⟩
      obtain ⟨b, hbe⟩ : ∃ b, b = s[a].toNat := ⟨_, rfl⟩
      have hb := s[a].toNat_lt
      have hbit := Bit.num_bit s.data.toList k
      have hge : s.data.toList.getD (k / 8) 0 = s[a] := by
        rw [← ha, List.getD_eq_getElem?_getD, List.getElem?_eq_getElem (by rw [unhide HSL]; exact hlas)]
        rfl
      rw [hge, ← hbe, ← hr, ← unhide HN] at hbit
      obtain ⟨P2, hP2⟩ : ∃ P2, P2 = 2 ^ r := ⟨_, rfl⟩
      obtain ⟨d, hd⟩ : ∃ d, d = b / P2 := ⟨_, rfl⟩
      obtain ⟨m, hm⟩ : ∃ m, m = d % 2 := ⟨_, rfl⟩
      rw [← hP2, ← hd, ← hm] at hbit
      obtain ⟨bt, hbt⟩ : ∃ bt, bt = decide (m = 1) := ⟨_, rfl⟩
      rw [← hbt] at hbit
      have HNx := hide ((unhide HR0).lay (T := N % 2 ^ (k + 1)) (b := bt) hlt (by rw [Nat.testBit_mod_two_pow, decide_eq_true (by omega), Bool.true_and, hbit]) (fun i hi => Bit.mod_step_bit N k i hi))
      have HN2 := hide (unhide HNx)
      have HPo := hide (fun u => rPower r (by omega) u)
      rw [← hP2] at HPo
      have hP0 : 0 < P2 := by rw [hP2]; exact Nat.pow_pos (by decide)
      have hP9 : P2 ≤ 256 := by rw [hP2]; exact Nat.le_trans (Nat.pow_le_pow_right (by decide) (show r ≤ 8 by omega)) (by decide)
      have hb' : b < 256 := by rw [hbe]; exact hb
      have hdl : d ≤ b := by rw [hd]; exact Nat.div_le_self _ _
      have e2 : (k : Int) % 8 = (r : Int) := by omega
      have hwa : IntKind.i64.wrap (a : Int) = (a : Int) := wrap_small _ (by omega) (by omega)
      have hrm : (k : Int).tmod 8 = (r : Int) := by rw [Int.tmod_eq_emod_of_nonneg (by omega)]; exact e2
      have hwb : IntKind.i64.wrap (b : Int) = (b : Int) := wrap_small _ (by omega) (by omega)
      have hq2 : (b : Int) / (P2 : Int) = (d : Int) := by rw [hd]; exact (Int.natCast_ediv b P2).symm
      have hq1 : (b : Int).tdiv (P2 : Int) = (d : Int) := by rw [Int.tdiv_eq_ediv_of_nonneg (by omega)]; exact hq2
      have hwd : IntKind.i64.wrap (d : Int) = (d : Int) := wrap_small _ (by omega) (by omega)
      have hm1 : (d : Int).tmod 2 = (m : Int) := by rw [Int.tmod_eq_emod_of_nonneg (by omega)]; omega
      have hm2 : (d : Int) % 2 = (m : Int) := by omega
      have hbt2 : ((m : Int) == 1) = bt := by
        rw [hbt, Bool.eq_iff_iff]
        simp only [beq_iff_eq, decide_eq_true_eq]
        omega
      have hP3 : ¬ (P2 : Int) = 0 := by omega
      have hP4 : ¬ P2 = 0 := by omega
      have hbs := hbe.symm
      have hr2 : r < 8 := by omega
      have HN := hide (unhide HN2)
      clear HNx HN2 hbit hge hP2 hd hm hbt hbe hb ha hr HR0 hP0 hP9
      go_wp2
      refine wp_region_last (fun u => u.cell? ⟨p, 0, none⟩ = some (.slice (some ⟨q, 0, none⟩) n cap) ∧ u.cell? ⟨q, k, none⟩ = some (.bool b0) ∧ u.frozen? ⟨q, k, none⟩ = false) 17 (by kernel_rfl) ⟨hc0, hcb, hfz⟩ fun hS => ?_
      refine wpAnyL_take 0 29 (.pointer (some ⟨p, 0, none⟩)) [] rfl rfl (by kernel_rfl) (by kernel_rfl) (by kernel_rfl) (by kernel_rfl) (by kernel_rfl) (fun _ _ _ h => h) (by rfl) (fun u _ => by go_simp) hS ?_
      simp only [Act.put, List.setIfInBounds_toArray, List.set_cons_zero, List.set_cons_succ]
      refine wpAnyL_take 1 30 (.pointer (some ⟨p, 0, none⟩)) [] rfl rfl (by kernel_rfl) (by kernel_rfl) (by kernel_rfl) (by kernel_rfl) (by kernel_rfl) (fun _ _ _ h => h) (by rfl) (fun u _ => by go_simp) hS ?_
      simp only [Act.put, List.setIfInBounds_toArray, List.set_cons_zero, List.set_cons_succ]
      refine wpAnyL_take 2 31 (.pointer (some ⟨p, 0, none⟩)) [] rfl rfl (by kernel_rfl) (by kernel_rfl) (by kernel_rfl) (by kernel_rfl) (by kernel_rfl) (fun _ _ _ h => h) (by rfl) (fun u _ => by go_simp) hS ?_
      simp only [Act.put, List.setIfInBounds_toArray, List.set_cons_zero, List.set_cons_succ]
      refine wpAnyL_take 3 32 (.slice (some ⟨q, 0, none⟩) n cap) [] rfl rfl (by kernel_rfl) (by kernel_rfl) (by kernel_rfl) (by kernel_rfl) (by kernel_rfl) (fun _ _ _ h => h) (by rfl) (fun u hu => by obtain ⟨s1, s2⟩ := hu; go_simp) hS ?_
      simp only [Act.put, List.setIfInBounds_toArray, List.set_cons_zero, List.set_cons_succ]
      refine wpAnyL_take 4 33 (.int .i64 (k : Int)) [] rfl rfl (by kernel_rfl) (by kernel_rfl) (by kernel_rfl) (by kernel_rfl) (by kernel_rfl) (fun _ _ _ h => h) (by rfl) (fun u _ => by go_simp) hS ?_
      simp only [Act.put, List.setIfInBounds_toArray, List.set_cons_zero, List.set_cons_succ]
      refine wpAnyL_take 5 34 (.string s) [] rfl rfl (by kernel_rfl) (by kernel_rfl) (by kernel_rfl) (by kernel_rfl) (by kernel_rfl) (fun _ _ _ h => h) (by rfl) (fun u _ => by go_simp) hS ?_
      simp only [Act.put, List.setIfInBounds_toArray, List.set_cons_zero, List.set_cons_succ]
      refine wpAnyL_take 6 35 (.int .i64 (k : Int)) [] rfl rfl (by kernel_rfl) (by kernel_rfl) (by kernel_rfl) (by kernel_rfl) (by kernel_rfl) (fun _ _ _ h => h) (by rfl) (fun u _ => by go_simp) hS ?_
      simp only [Act.put, List.setIfInBounds_toArray, List.set_cons_zero, List.set_cons_succ]
      refine wpAnyL_take 7 36 (.int .i64 (a : Int)) [] rfl rfl (by kernel_rfl) (by kernel_rfl) (by kernel_rfl) (by kernel_rfl) (by kernel_rfl) (fun _ _ _ h => h) (by rfl) (fun u _ => by go_simp) hS ?_
      simp only [Act.put, List.setIfInBounds_toArray, List.set_cons_zero, List.set_cons_succ]
      refine wpAnyL_take 8 37 (.int .u8 (b : Int)) [] rfl rfl (by kernel_rfl) (by kernel_rfl) (by kernel_rfl) (by kernel_rfl) (by kernel_rfl) (fun _ _ _ h => h) (by rfl) (fun u _ => by go_simp) hS ?_
      simp only [Act.put, List.setIfInBounds_toArray, List.set_cons_zero, List.set_cons_succ]
      refine wpAnyL_take 9 38 (.int .i64 (b : Int)) [] rfl rfl (by kernel_rfl) (by kernel_rfl) (by kernel_rfl) (by kernel_rfl) (by kernel_rfl) (fun _ _ _ h => h) (by rfl) (fun u _ => by go_simp) hS ?_
      simp only [Act.put, List.setIfInBounds_toArray, List.set_cons_zero, List.set_cons_succ]
      refine wpAnyL_take 10 39 (.int .i64 (k : Int)) [] rfl rfl (by kernel_rfl) (by kernel_rfl) (by kernel_rfl) (by kernel_rfl) (by kernel_rfl) (fun _ _ _ h => h) (by rfl) (fun u _ => by go_simp) hS ?_
      simp only [Act.put, List.setIfInBounds_toArray, List.set_cons_zero, List.set_cons_succ]
      refine wpAnyL_take 11 40 (.int .i64 (r : Int)) [] rfl rfl (by kernel_rfl) (by kernel_rfl) (by kernel_rfl) (by kernel_rfl) (by kernel_rfl) (fun _ _ _ h => h) (by rfl) (fun u _ => by go_simp) hS ?_
      simp only [Act.put, List.setIfInBounds_toArray, List.set_cons_zero, List.set_cons_succ]
      refine wpAnyL_one (i := 12) (by kernel_rfl) rfl (by rfl) fun K hK => ?_
      go_simp
      refine (unhide HPo _).mono ?_
      rintro e w1 ⟨rfl, hw1⟩
      obtain rfl := hw1.symm
      refine hK _ _ (fun _ => hS) ?_
      clear hK K hw1
      refine wpAnyL_take 13 42 (.int .i64 (d : Int)) [] rfl rfl (by kernel_rfl) (by kernel_rfl) (by kernel_rfl) (by kernel_rfl) (by kernel_rfl) (fun _ _ _ h => h) (by rfl) (fun u _ => by go_simp) hS ?_
      simp only [Act.put, List.setIfInBounds_toArray, List.set_cons_zero, List.set_cons_succ]
      refine wpAnyL_take 14 43 (.int .i64 (m : Int)) [] rfl rfl (by kernel_rfl) (by kernel_rfl) (by kernel_rfl) (by kernel_rfl) (by kernel_rfl) (fun _ _ _ h => h) (by rfl) (fun u _ => by go_simp) hS ?_
      simp only [Act.put, List.setIfInBounds_toArray, List.set_cons_zero, List.set_cons_succ]
      refine wpAnyL_take 15 44 (.bool bt) [] rfl rfl (by kernel_rfl) (by kernel_rfl) (by kernel_rfl) (by kernel_rfl) (by kernel_rfl) (fun _ _ _ h => h) (by rfl) (fun u _ => by go_simp) hS ?_
      simp only [Act.put, List.setIfInBounds_toArray, List.set_cons_zero, List.set_cons_succ]
      refine wpAnyL_take 16 45 (.pointer (some ⟨q, k, none⟩)) [] rfl rfl (by kernel_rfl) (by kernel_rfl) (by kernel_rfl) (by kernel_rfl) (by kernel_rfl) (fun _ _ _ h => h) (by rfl) (fun u _ => by go_simp) hS ?_
      simp only [Act.put, List.setIfInBounds_toArray, List.set_cons_zero, List.set_cons_succ]
      refine wpAnyL_one (i := 17) (by kernel_rfl) rfl (by rfl) fun K hK => ?_
      obtain ⟨s1, s2, s3⟩ := hS
      go_simp
      refine hK _ _ (fun h => absurd rfl h) ?_
      clear hK K
      refine wpAnyL_done (by kernel_rfl) ?_ _
      go_wp2
      go_roundw
      case rel => exact ⟨k + 1, by omega, by go_num, hide ⟨(unhide HN).drewN 1, belowDrew (belowCell (unhide HB0) (unhide HQ) _)⟩⟩
      case measure => simp [intOf]; omega
    · have HST : Hid (N % 2 ^ k = N % 2 ^ n) := by
        show _ = _
        by_cases h1 : k < n
        · have hN8 : N < 2 ^ k := by
            have h2 := Bit.num_lt s.data.toList
            rw [← unhide HN, unhide HSL] at h2
            exact Nat.lt_of_lt_of_le h2 (Nat.pow_le_pow_right (by decide) (by omega))
          rw [Nat.mod_eq_of_lt hN8, Nat.mod_eq_of_lt (Nat.lt_of_lt_of_le hN8 (Nat.pow_le_pow_right (by decide) hk))]
        · rw [show k = n from by omega]
      rw [unhide HST] at HR0
      have HTo := hide (rTold (unhide HR0))
      have HGI := hide (Bit.told_good s.data.toList n)
      rw [← unhide HN] at HGI
      have hcase : (¬ (k : Int) < (n : Int)) ∨ ((k : Int) < (n : Int) ∧ ¬ (a : Int) < (s.size : Int)) := by omega
      obtain ⟨ts, hts⟩ : ∃ ts : ByteArray, ts = ⟨(Bit.told (N % 2 ^ n) n).toArray⟩ := ⟨_, rfl⟩
      rw [← hts] at HTo
      have HTS : Hid (ts = s ↔ Bit.Good s.data.toList n) := by
        show _ ↔ _
        rw [← unhide HGI, hts]
        constructor
        · intro h
          have := congrArg (fun z : ByteArray => z.data.toList) h
          simpa using this
        · intro h
          rw [h]
      clear hts HGI hgo ha
      by_cases hg : ts = s
      · subst hg
        have HG : Hid (Bit.Good ts.data.toList n) := (unhide HTS).1 rfl
        have HNN : Hid (N % 2 ^ n = N) := by show _ = _; rw [unhide HN]; exact Nat.mod_eq_of_lt (unhide HG).2
        rw [unhide HNN] at HR0
        rcases hcase with hA | ⟨hA, hB⟩
        all_goals
          go_wp2_with fail
          refine (unhide HTo).mono ?_
          rintro e w5 ⟨rfl, hb5⟩
          have HB5 := hide hb5
          clear hb5
          go_wp2
          go_ret2
          exact ⟨(unhide HB0).trans ((unhide HB5).mono (unhide HB0).size), .inl ⟨unhide HG, p, q, rfl, unhide HP, unhide HQ, by rw [← unhide HN]; exact (unhide HR0).below (unhide HB5)⟩⟩
      · have HG : Hid (¬ Bit.Good s.data.toList n) := fun h => hg ((unhide HTS).2 h)
        have hbeq : (ts.toList == s.toList) = false := by
          rw [beq_eq_false_iff_ne]
          intro h
          rw [bytes_toList, bytes_toList] at h
          exact hg (ByteArray.ext (Array.toList_inj.1 h))
        rcases hcase with hA | ⟨hA, hB⟩
        all_goals
          go_wp2_with fail
          refine (unhide HTo).mono ?_
          rintro e w5 ⟨rfl, hb5⟩
          have HB5 := hide hb5
          clear hb5
          go_wp2
          go_ret2
          exact ⟨(unhide HB0).trans ((unhide HB5).mono (unhide HB0).size), .inr ⟨unhide HG, rfl⟩⟩
end Go.Proofs.YtloealcaagfehaaDoor
