/- Or, And, Minus. -/
import Derived.Test.YtinfmomhbegfhaaDoorBp
import Derived.Test.YtinfmomhbegfhaaDoorBm
import Derived.Test.YtinfmomhbegfhaaDoorLs
namespace Go.Proofs.YtinfmomhbegfhaaDoor
open Go.RowKit

namespace Bit
/-- the one's first k words, the other's behind them -/
def mix (R S k : Nat) : Nat := (R % 2 ^ (64 * k)) ||| (S ^^^ (S % 2 ^ (64 * k)))
theorem mix_bit (R S k j : Nat) : (mix R S k).testBit j = if j < 64 * k then R.testBit j else S.testBit j := by
  rw [mix, Nat.testBit_or, Nat.testBit_xor, Nat.testBit_mod_two_pow, Nat.testBit_mod_two_pow]
  by_cases h : j < 64 * k <;> simp [h]
theorem mix_zero (R S : Nat) : mix R S 0 = S := Nat.eq_of_testBit_eq fun j => by rw [mix_bit, if_neg (by omega)]
theorem mix_all {R S n k : Nat} (hR : R < 2 ^ n) (hS : S < 2 ^ n) (hk : n ≤ 64 * k) : mix R S k = R := Nat.eq_of_testBit_eq fun j => by
  rw [mix_bit]
  by_cases h : j < 64 * k
  · rw [if_pos h]
  · have e : 2 ^ n ≤ 2 ^ j := Nat.pow_le_pow_right (by decide) (by omega)
    rw [if_neg h, Nat.testBit_lt_two_pow (Nat.lt_of_lt_of_le hS e), Nat.testBit_lt_two_pow (Nat.lt_of_lt_of_le hR e)]
theorem mix_word (R S k : Nat) : word (mix R S (k + 1)) k = word R k := Nat.eq_of_testBit_eq fun j => by
  rw [word_bit, word_bit, mix_bit]
  by_cases h : j < 64
  · rw [if_pos (by omega)]
  · simp [h]
theorem mix_at (R S k : Nat) : word (mix R S k) k = word S k := Nat.eq_of_testBit_eq fun j => by
  rw [word_bit, word_bit, mix_bit, if_neg (by omega)]
theorem mix_other (R S k i : Nat) (hi : i ≠ k) : word (mix R S (k + 1)) i = word (mix R S k) i := Nat.eq_of_testBit_eq fun j => by
  rw [word_bit, word_bit, mix_bit, mix_bit]
  by_cases h : j < 64
  · have e : (64 * i + j < 64 * (k + 1)) ↔ (64 * i + j < 64 * k) := by omega
    simp only [e]
  · simp [h]
theorem word_or (S T i : Nat) : word (S ||| T) i = word S i ||| word T i := Nat.eq_of_testBit_eq fun j => by
  rw [word_bit, Nat.testBit_or, Nat.testBit_or, word_bit, word_bit]
  cases decide (j < 64) <;> rfl
theorem word_and (S T i : Nat) : word (S &&& T) i = word S i &&& word T i := Nat.eq_of_testBit_eq fun j => by
  rw [word_bit, Nat.testBit_and, Nat.testBit_and, word_bit, word_bit]
  cases decide (j < 64) <;> simp
theorem word_minus (S T i : Nat) : word (minus S T) i = word S i &&& (18446744073709551615 - word T i) := Nat.eq_of_testBit_eq fun j => by
  have h : word T i < 2 ^ 64 := word_lt T i
  have h2 : (2 : Nat) ^ 64 = 18446744073709551616 := rfl
  rw [word_bit, minus_bit, Nat.testBit_and, word_bit, show 18446744073709551615 - word T i = 2 ^ 64 - (word T i + 1) from by omega, Nat.testBit_two_pow_sub_succ h, word_bit]
  cases decide (j < 64) <;> simp
end Bit
theorem Bm.ne' {w : World} {p q n S p' q' n' T : Nat} (h : Bm w p q n S) (h' : Bm w p' q' n' T) : p' ≠ q := by
  rintro rfl
  obtain ⟨cs, h1, _⟩ := h.bq.row
  obtain ⟨cap, h2⟩ := h'.bq.hd
  rw [h1] at h2
  injection h2 with h3
  injection h3 with _ h4 _
  exact absurd h4 (by decide)
theorem bOrIn (a b : Nat) (ha : a < 18446744073709551616) (hb : b < 18446744073709551616) (u : World) : Calls Tryd.prog 57 #[.int .u64 (a : Int), .int .u64 (b : Int)] u fun e w' => e = .returned (.int .u64 ((a ||| b : Nat) : Int)) ∧ w' = u := by
  have h := u64_or_nat a b ha hb
  go_enter Tryd.func57, Tryd.ntmps57
  go_wp2
  go_ret
  exact ⟨rfl, rfl⟩
set_option maxRecDepth 100000 in
set_option maxHeartbeats 1000000 in
theorem bWithOr {p q p' q' n S T R : Nat} {w : World} (h : Bm w p q n S) (h' : Bm w p' q' n T) (hs : q' = q → S = T) (hR : R < 2 ^ n) (hF : ∀ i u, Calls Tryd.prog 57 #[.int .u64 (Bit.word S i : Int), .int .u64 (Bit.word T i : Int)] u fun e w' => e = .returned (.int .u64 (Bit.word R i : Int)) ∧ w' = u) :
    Calls Tryd.prog 56 #[.pointer (some ⟨p, 0, none⟩), .pointer (some ⟨p', 0, none⟩), .func (.func 57) #[] #[]] w fun e w' => e = .returned (.int .i64 0) ∧ Bm w' p q n R ∧ U1 w w' q := by
  have h0 := h.c0
  have h0' := h'.c0
  obtain ⟨cap, h1⟩ := h.c1
  obtain ⟨cap', h1'⟩ := h'.c1
  have hle := h.le
  have HH := hide h
  obtain ⟨m, hm⟩ : ∃ m, m = (n + 63) / 64 := ⟨_, rfl⟩
  have hm2 : m ≤ 1024 := by omega
  rw [← hm] at h1 h1'
  have HM := hide hm
  have HP1 : Hid (∀ u, U1 w u q → u.cell? ⟨p, 1, none⟩ = some (.slice (some ⟨q, 0, none⟩) m cap)) := fun u hu => (World.cell?_of_block (a := ⟨p, 1, none⟩) (hu.block p h.plt h.bq.ne)).trans h1
  have HP2 : Hid (∀ u, U1 w u q → u.cell? ⟨p', 1, none⟩ = some (.slice (some ⟨q', 0, none⟩) m cap')) := fun u hu => (World.cell?_of_block (a := ⟨p', 1, none⟩) (hu.block p' h'.plt (h.ne' h'))).trans h1'
  have HP3 : Hid (∀ u k, U1 w u q → k < m → u.cell? ⟨q, k, none⟩ = some (.int .u64 (Bit.word S k : Int)) → u.cell? ⟨q', k, none⟩ = some (.int .u64 (Bit.word T k : Int))) := fun u k hu hk hc => by
    by_cases e : q' = q
    · rw [e, hc, hs e]
    · exact (World.cell?_of_block (a := ⟨q', k, none⟩) (hu.block q' h'.qlt e)).trans (h'.w k (by omega))
  have hpq := h.bq.ne
  have hpq' := h.ne' h'
  clear h h' hm hs
  go_enter Tryd.func56, Tryd.ntmps56
  go_wp2
  go_quiet (fail)
  go_wp2
  go_loopw [28] (fun i wr => ∃ k : Nat, k ≤ m ∧ i = .int .i64 k ∧ Hid (Bq wr p q n (Bit.mix R S k) ∧ U1 w wr q)) (fun i _ => m - (intOf i).toNat)
  case atStart => exact ⟨0, Nat.zero_le _, rfl, hide ⟨by rw [Bit.mix_zero]; exact (unhide HH).bq.drewN _, (U1.refl _ _).drewN _⟩⟩
  case round =>
    obtain ⟨k, hk, rfl, HI⟩ := hrel
    by_cases hlt : k < m
    · have g1 := unhide HP1 wr (unhide HI).2
      have g2 := (unhide HI).1.w k (by rw [← unhide HM]; exact hlt)
      rw [Bit.mix_at] at g2
      have g3 := (unhide HI).1.fz k
      have g4 := unhide HP2 wr (unhide HI).2
      have g5 := unhide HP3 wr k (unhide HI).2 hlt g2
      have hki : (k : Int) < (m : Int) := by omega
      have HN := hide ((unhide HI).1.lay (T := Bit.mix R S (k + 1)) (k := k) (Bit.mix_word R S k).symm (fun i hi => Bit.mix_other R S k i hi))
      have HU := hide (fun v => (unhide HI).2.set k v)
      have HC := hide (hF k)
      generalize Bit.word S k = W at *
      generalize Bit.word T k = V at *
      generalize Bit.word R k = X at *
      clear HI hF
      go_wp2
      refine wp_region_last (fun u => u.cell? ⟨p, 1, none⟩ = some (.slice (some ⟨q, 0, none⟩) m cap) ∧ u.cell? ⟨p', 1, none⟩ = some (.slice (some ⟨q', 0, none⟩) m cap') ∧ u.cell? ⟨q, k, none⟩ = some (.int .u64 (W : Int)) ∧ u.cell? ⟨q', k, none⟩ = some (.int .u64 (V : Int)) ∧ u.frozen? ⟨q, k, none⟩ = false) 22 (by kernel_rfl) ⟨g1, g4, g2, g5, g3⟩ fun hS => ?_
      refine wpAnyL_take 0 31 (.pointer (some ⟨p, 0, none⟩)) [] rfl rfl (by kernel_rfl) (by kernel_rfl) (by kernel_rfl) (by kernel_rfl) (by kernel_rfl) (fun _ _ _ h => h) (by rfl) (fun u _ => by go_simp) hS ?_
      simp only [Act.put, List.setIfInBounds_toArray, List.set_cons_zero, List.set_cons_succ]
      refine wpAnyL_take 1 32 (.pointer (some ⟨p, 0, none⟩)) [] rfl rfl (by kernel_rfl) (by kernel_rfl) (by kernel_rfl) (by kernel_rfl) (by kernel_rfl) (fun _ _ _ h => h) (by rfl) (fun u _ => by go_simp) hS ?_
      simp only [Act.put, List.setIfInBounds_toArray, List.set_cons_zero, List.set_cons_succ]
      refine wpAnyL_take 2 33 (.pointer (some ⟨p, 1, none⟩)) [] rfl rfl (by kernel_rfl) (by kernel_rfl) (by kernel_rfl) (by kernel_rfl) (by kernel_rfl) (fun _ _ _ h => h) (by rfl) (fun u _ => by go_simp) hS ?_
      simp only [Act.put, List.setIfInBounds_toArray, List.set_cons_zero, List.set_cons_succ]
      refine wpAnyL_take 3 34 (.slice (some ⟨q, 0, none⟩) m cap) [] rfl rfl (by kernel_rfl) (by kernel_rfl) (by kernel_rfl) (by kernel_rfl) (by kernel_rfl) (fun _ _ _ h => h) (by rfl) (fun u hu => by obtain ⟨s1, s2, s3, s4, s5⟩ := hu; go_simp) hS ?_
      simp only [Act.put, List.setIfInBounds_toArray, List.set_cons_zero, List.set_cons_succ]
      refine wpAnyL_take 4 35 (.int .i64 (k : Int)) [] rfl rfl (by kernel_rfl) (by kernel_rfl) (by kernel_rfl) (by kernel_rfl) (by kernel_rfl) (fun _ _ _ h => h) (by rfl) (fun u _ => by go_simp) hS ?_
      simp only [Act.put, List.setIfInBounds_toArray, List.set_cons_zero, List.set_cons_succ]
      refine wpAnyL_take 5 36 (.func (.func 57) #[] #[]) [] rfl rfl (by kernel_rfl) (by kernel_rfl) (by kernel_rfl) (by kernel_rfl) (by kernel_rfl) (fun _ _ _ h => h) (by rfl) (fun u _ => by go_simp) hS ?_
      simp only [Act.put, List.setIfInBounds_toArray, List.set_cons_zero, List.set_cons_succ]
      refine wpAnyL_take 6 37 (.pointer (some ⟨p, 0, none⟩)) [] rfl rfl (by kernel_rfl) (by kernel_rfl) (by kernel_rfl) (by kernel_rfl) (by kernel_rfl) (fun _ _ _ h => h) (by rfl) (fun u _ => by go_simp) hS ?_
      simp only [Act.put, List.setIfInBounds_toArray, List.set_cons_zero, List.set_cons_succ]
      refine wpAnyL_take 7 38 (.pointer (some ⟨p, 0, none⟩)) [] rfl rfl (by kernel_rfl) (by kernel_rfl) (by kernel_rfl) (by kernel_rfl) (by kernel_rfl) (fun _ _ _ h => h) (by rfl) (fun u _ => by go_simp) hS ?_
      simp only [Act.put, List.setIfInBounds_toArray, List.set_cons_zero, List.set_cons_succ]
      refine wpAnyL_take 8 39 (.pointer (some ⟨p, 1, none⟩)) [] rfl rfl (by kernel_rfl) (by kernel_rfl) (by kernel_rfl) (by kernel_rfl) (by kernel_rfl) (fun _ _ _ h => h) (by rfl) (fun u _ => by go_simp) hS ?_
      simp only [Act.put, List.setIfInBounds_toArray, List.set_cons_zero, List.set_cons_succ]
      refine wpAnyL_take 9 40 (.slice (some ⟨q, 0, none⟩) m cap) [] rfl rfl (by kernel_rfl) (by kernel_rfl) (by kernel_rfl) (by kernel_rfl) (by kernel_rfl) (fun _ _ _ h => h) (by rfl) (fun u hu => by obtain ⟨s1, s2, s3, s4, s5⟩ := hu; go_simp) hS ?_
      simp only [Act.put, List.setIfInBounds_toArray, List.set_cons_zero, List.set_cons_succ]
      refine wpAnyL_take 10 41 (.int .i64 (k : Int)) [] rfl rfl (by kernel_rfl) (by kernel_rfl) (by kernel_rfl) (by kernel_rfl) (by kernel_rfl) (fun _ _ _ h => h) (by rfl) (fun u _ => by go_simp) hS ?_
      simp only [Act.put, List.setIfInBounds_toArray, List.set_cons_zero, List.set_cons_succ]
      refine wpAnyL_take 11 42 (.pointer (some ⟨q, k, none⟩)) [] rfl rfl (by kernel_rfl) (by kernel_rfl) (by kernel_rfl) (by kernel_rfl) (by kernel_rfl) (fun _ _ _ h => h) (by rfl) (fun u _ => by go_simp) hS ?_
      simp only [Act.put, List.setIfInBounds_toArray, List.set_cons_zero, List.set_cons_succ]
      refine wpAnyL_take 12 43 (.int .u64 (W : Int)) [] rfl rfl (by kernel_rfl) (by kernel_rfl) (by kernel_rfl) (by kernel_rfl) (by kernel_rfl) (fun _ _ _ h => h) (by rfl) (fun u hu => by obtain ⟨s1, s2, s3, s4, s5⟩ := hu; go_simp) hS ?_
      simp only [Act.put, List.setIfInBounds_toArray, List.set_cons_zero, List.set_cons_succ]
      refine wpAnyL_take 13 44 (.pointer (some ⟨p', 0, none⟩)) [] rfl rfl (by kernel_rfl) (by kernel_rfl) (by kernel_rfl) (by kernel_rfl) (by kernel_rfl) (fun _ _ _ h => h) (by rfl) (fun u _ => by go_simp) hS ?_
      simp only [Act.put, List.setIfInBounds_toArray, List.set_cons_zero, List.set_cons_succ]
      refine wpAnyL_take 14 45 (.pointer (some ⟨p', 0, none⟩)) [] rfl rfl (by kernel_rfl) (by kernel_rfl) (by kernel_rfl) (by kernel_rfl) (by kernel_rfl) (fun _ _ _ h => h) (by rfl) (fun u _ => by go_simp) hS ?_
      simp only [Act.put, List.setIfInBounds_toArray, List.set_cons_zero, List.set_cons_succ]
      refine wpAnyL_take 15 46 (.pointer (some ⟨p', 1, none⟩)) [] rfl rfl (by kernel_rfl) (by kernel_rfl) (by kernel_rfl) (by kernel_rfl) (by kernel_rfl) (fun _ _ _ h => h) (by rfl) (fun u _ => by go_simp) hS ?_
      simp only [Act.put, List.setIfInBounds_toArray, List.set_cons_zero, List.set_cons_succ]
      refine wpAnyL_take 16 47 (.slice (some ⟨q', 0, none⟩) m cap') [] rfl rfl (by kernel_rfl) (by kernel_rfl) (by kernel_rfl) (by kernel_rfl) (by kernel_rfl) (fun _ _ _ h => h) (by rfl) (fun u hu => by obtain ⟨s1, s2, s3, s4, s5⟩ := hu; go_simp) hS ?_
      simp only [Act.put, List.setIfInBounds_toArray, List.set_cons_zero, List.set_cons_succ]
      refine wpAnyL_take 17 48 (.int .i64 (k : Int)) [] rfl rfl (by kernel_rfl) (by kernel_rfl) (by kernel_rfl) (by kernel_rfl) (by kernel_rfl) (fun _ _ _ h => h) (by rfl) (fun u _ => by go_simp) hS ?_
      simp only [Act.put, List.setIfInBounds_toArray, List.set_cons_zero, List.set_cons_succ]
      refine wpAnyL_take 18 49 (.pointer (some ⟨q', k, none⟩)) [] rfl rfl (by kernel_rfl) (by kernel_rfl) (by kernel_rfl) (by kernel_rfl) (by kernel_rfl) (fun _ _ _ h => h) (by rfl) (fun u _ => by go_simp) hS ?_
      simp only [Act.put, List.setIfInBounds_toArray, List.set_cons_zero, List.set_cons_succ]
      refine wpAnyL_take 19 50 (.int .u64 (V : Int)) [] rfl rfl (by kernel_rfl) (by kernel_rfl) (by kernel_rfl) (by kernel_rfl) (by kernel_rfl) (fun _ _ _ h => h) (by rfl) (fun u hu => by obtain ⟨s1, s2, s3, s4, s5⟩ := hu; go_simp) hS ?_
      simp only [Act.put, List.setIfInBounds_toArray, List.set_cons_zero, List.set_cons_succ]
      refine wpAnyL_one (i := 20) (by kernel_rfl) rfl (by rfl) fun K hK => ?_
      go_simp
      refine (unhide HC _).mono ?_
      rintro e w1 ⟨rfl, hw1⟩
      obtain rfl := hw1.symm
      refine hK _ _ (fun _ => hS) ?_
      clear hK K hw1
      refine wpAnyL_take 21 52 (.pointer (some ⟨q, k, none⟩)) [] rfl rfl (by kernel_rfl) (by kernel_rfl) (by kernel_rfl) (by kernel_rfl) (by kernel_rfl) (fun _ _ _ h => h) (by rfl) (fun u _ => by go_simp) hS ?_
      simp only [Act.put, List.setIfInBounds_toArray, List.set_cons_zero, List.set_cons_succ]
      refine wpAnyL_one (i := 22) (by kernel_rfl) rfl (by rfl) fun K hK => ?_
      obtain ⟨s1, s2, s3, s4, s5⟩ := hS
      go_simp
      refine hK _ _ (fun h => absurd rfl h) ?_
      clear hK K
      refine wpAnyL_done (by kernel_rfl) ?_ _
      go_wp2
      go_roundw
      case rel => exact ⟨k + 1, by omega, by go_num, hide ⟨(unhide HN).drew, (unhide HU _).drew⟩⟩
      case measure => simp [intOf]; omega
    · have hkk : k = m := by omega
      subst hkk
      have HF : Hid (Bit.mix R S k = R) := Bit.mix_all hR (unhide HH).lt (by have := unhide HM; omega)
      go_wp2
      go_ret
      exact ⟨rfl, ⟨by rw [← unhide HF]; exact (unhide HI).1, hR⟩, (unhide HI).2⟩
theorem bOr {p q p' q' n S T : Nat} {w : World} (h : Bm w p q n S) (h' : Bm w p' q' n T) (hs : q' = q → S = T) : Calls Tryd.prog 33 #[.pointer (some ⟨p, 0, none⟩), .pointer (some ⟨p', 0, none⟩)] w fun e w' => e = .returned (.int .i64 0) ∧ Bm w' p q n (S ||| T) ∧ U1 w w' q := by
  have HW := hide (bWithOr h h' hs (R := S ||| T) (Nat.or_lt_two_pow h.lt h'.lt) (fun i u => by rw [Bit.word_or]; exact bOrIn _ _ (Bit.word_lt _ _) (Bit.word_lt _ _) u))
  have hmf : ∀ (fn : Fn) (first cap : Array Value) (w : World), (Instr.makeFunc fn first cap).run Tryd.prog w = .ok (.func fn first cap) w := fun _ _ _ _ => rfl
  clear h h' hs
  go_enter Tryd.func33, Tryd.ntmps33
  go_wp2_with fail
  refine (unhide HW).mono ?_
  rintro e w1 ⟨rfl, hm, hu⟩
  have HM := hide hm
  have HU := hide hu
  clear hm hu
  go_wp2
  go_ret
  exact ⟨rfl, unhide HM, unhide HU⟩
theorem bAndIn (a b : Nat) (ha : a < 18446744073709551616) (hb : b < 18446744073709551616) (u : World) : Calls Tryd.prog 58 #[.int .u64 (a : Int), .int .u64 (b : Int)] u fun e w' => e = .returned (.int .u64 ((a &&& b : Nat) : Int)) ∧ w' = u := by
  have h := u64_and_nat a b ha hb
  go_enter Tryd.func58, Tryd.ntmps58
  go_wp2
  go_ret
  exact ⟨rfl, rfl⟩
set_option maxRecDepth 100000 in
set_option maxHeartbeats 1000000 in
theorem bWithAnd {p q p' q' n S T R : Nat} {w : World} (h : Bm w p q n S) (h' : Bm w p' q' n T) (hs : q' = q → S = T) (hR : R < 2 ^ n) (hF : ∀ i u, Calls Tryd.prog 58 #[.int .u64 (Bit.word S i : Int), .int .u64 (Bit.word T i : Int)] u fun e w' => e = .returned (.int .u64 (Bit.word R i : Int)) ∧ w' = u) :
    Calls Tryd.prog 56 #[.pointer (some ⟨p, 0, none⟩), .pointer (some ⟨p', 0, none⟩), .func (.func 58) #[] #[]] w fun e w' => e = .returned (.int .i64 0) ∧ Bm w' p q n R ∧ U1 w w' q := by
  have h0 := h.c0
  have h0' := h'.c0
  obtain ⟨cap, h1⟩ := h.c1
  obtain ⟨cap', h1'⟩ := h'.c1
  have hle := h.le
  have HH := hide h
  obtain ⟨m, hm⟩ : ∃ m, m = (n + 63) / 64 := ⟨_, rfl⟩
  have hm2 : m ≤ 1024 := by omega
  rw [← hm] at h1 h1'
  have HM := hide hm
  have HP1 : Hid (∀ u, U1 w u q → u.cell? ⟨p, 1, none⟩ = some (.slice (some ⟨q, 0, none⟩) m cap)) := fun u hu => (World.cell?_of_block (a := ⟨p, 1, none⟩) (hu.block p h.plt h.bq.ne)).trans h1
  have HP2 : Hid (∀ u, U1 w u q → u.cell? ⟨p', 1, none⟩ = some (.slice (some ⟨q', 0, none⟩) m cap')) := fun u hu => (World.cell?_of_block (a := ⟨p', 1, none⟩) (hu.block p' h'.plt (h.ne' h'))).trans h1'
  have HP3 : Hid (∀ u k, U1 w u q → k < m → u.cell? ⟨q, k, none⟩ = some (.int .u64 (Bit.word S k : Int)) → u.cell? ⟨q', k, none⟩ = some (.int .u64 (Bit.word T k : Int))) := fun u k hu hk hc => by
    by_cases e : q' = q
    · rw [e, hc, hs e]
    · exact (World.cell?_of_block (a := ⟨q', k, none⟩) (hu.block q' h'.qlt e)).trans (h'.w k (by omega))
  have hpq := h.bq.ne
  have hpq' := h.ne' h'
  clear h h' hm hs
  go_enter Tryd.func56, Tryd.ntmps56
  go_wp2
  go_quiet (fail)
  go_wp2
  go_loopw [28] (fun i wr => ∃ k : Nat, k ≤ m ∧ i = .int .i64 k ∧ Hid (Bq wr p q n (Bit.mix R S k) ∧ U1 w wr q)) (fun i _ => m - (intOf i).toNat)
  case atStart => exact ⟨0, Nat.zero_le _, rfl, hide ⟨by rw [Bit.mix_zero]; exact (unhide HH).bq.drewN _, (U1.refl _ _).drewN _⟩⟩
  case round =>
    obtain ⟨k, hk, rfl, HI⟩ := hrel
    by_cases hlt : k < m
    · have g1 := unhide HP1 wr (unhide HI).2
      have g2 := (unhide HI).1.w k (by rw [← unhide HM]; exact hlt)
      rw [Bit.mix_at] at g2
      have g3 := (unhide HI).1.fz k
      have g4 := unhide HP2 wr (unhide HI).2
      have g5 := unhide HP3 wr k (unhide HI).2 hlt g2
      have hki : (k : Int) < (m : Int) := by omega
      have HN := hide ((unhide HI).1.lay (T := Bit.mix R S (k + 1)) (k := k) (Bit.mix_word R S k).symm (fun i hi => Bit.mix_other R S k i hi))
      have HU := hide (fun v => (unhide HI).2.set k v)
      have HC := hide (hF k)
      generalize Bit.word S k = W at *
      generalize Bit.word T k = V at *
      generalize Bit.word R k = X at *
      clear HI hF
      go_wp2
      refine wp_region_last (fun u => u.cell? ⟨p, 1, none⟩ = some (.slice (some ⟨q, 0, none⟩) m cap) ∧ u.cell? ⟨p', 1, none⟩ = some (.slice (some ⟨q', 0, none⟩) m cap') ∧ u.cell? ⟨q, k, none⟩ = some (.int .u64 (W : Int)) ∧ u.cell? ⟨q', k, none⟩ = some (.int .u64 (V : Int)) ∧ u.frozen? ⟨q, k, none⟩ = false) 22 (by kernel_rfl) ⟨g1, g4, g2, g5, g3⟩ fun hS => ?_
      refine wpAnyL_take 0 31 (.pointer (some ⟨p, 0, none⟩)) [] rfl rfl (by kernel_rfl) (by kernel_rfl) (by kernel_rfl) (by kernel_rfl) (by kernel_rfl) (fun _ _ _ h => h) (by rfl) (fun u _ => by go_simp) hS ?_
      simp only [Act.put, List.setIfInBounds_toArray, List.set_cons_zero, List.set_cons_succ]
      refine wpAnyL_take 1 32 (.pointer (some ⟨p, 0, none⟩)) [] rfl rfl (by kernel_rfl) (by kernel_rfl) (by kernel_rfl) (by kernel_rfl) (by kernel_rfl) (fun _ _ _ h => h) (by rfl) (fun u _ => by go_simp) hS ?_
      simp only [Act.put, List.setIfInBounds_toArray, List.set_cons_zero, List.set_cons_succ]
      refine wpAnyL_take 2 33 (.pointer (some ⟨p, 1, none⟩)) [] rfl rfl (by kernel_rfl) (by kernel_rfl) (by kernel_rfl) (by kernel_rfl) (by kernel_rfl) (fun _ _ _ h => h) (by rfl) (fun u _ => by go_simp) hS ?_
      simp only [Act.put, List.setIfInBounds_toArray, List.set_cons_zero, List.set_cons_succ]
      refine wpAnyL_take 3 34 (.slice (some ⟨q, 0, none⟩) m cap) [] rfl rfl (by kernel_rfl) (by kernel_rfl) (by kernel_rfl) (by kernel_rfl) (by kernel_rfl) (fun _ _ _ h => h) (by rfl) (fun u hu => by obtain ⟨s1, s2, s3, s4, s5⟩ := hu; go_simp) hS ?_
      simp only [Act.put, List.setIfInBounds_toArray, List.set_cons_zero, List.set_cons_succ]
      refine wpAnyL_take 4 35 (.int .i64 (k : Int)) [] rfl rfl (by kernel_rfl) (by kernel_rfl) (by kernel_rfl) (by kernel_rfl) (by kernel_rfl) (fun _ _ _ h => h) (by rfl) (fun u _ => by go_simp) hS ?_
      simp only [Act.put, List.setIfInBounds_toArray, List.set_cons_zero, List.set_cons_succ]
      refine wpAnyL_take 5 36 (.func (.func 58) #[] #[]) [] rfl rfl (by kernel_rfl) (by kernel_rfl) (by kernel_rfl) (by kernel_rfl) (by kernel_rfl) (fun _ _ _ h => h) (by rfl) (fun u _ => by go_simp) hS ?_
      simp only [Act.put, List.setIfInBounds_toArray, List.set_cons_zero, List.set_cons_succ]
      refine wpAnyL_take 6 37 (.pointer (some ⟨p, 0, none⟩)) [] rfl rfl (by kernel_rfl) (by kernel_rfl) (by kernel_rfl) (by kernel_rfl) (by kernel_rfl) (fun _ _ _ h => h) (by rfl) (fun u _ => by go_simp) hS ?_
      simp only [Act.put, List.setIfInBounds_toArray, List.set_cons_zero, List.set_cons_succ]
      refine wpAnyL_take 7 38 (.pointer (some ⟨p, 0, none⟩)) [] rfl rfl (by kernel_rfl) (by kernel_rfl) (by kernel_rfl) (by kernel_rfl) (by kernel_rfl) (fun _ _ _ h => h) (by rfl) (fun u _ => by go_simp) hS ?_
      simp only [Act.put, List.setIfInBounds_toArray, List.set_cons_zero, List.set_cons_succ]
      refine wpAnyL_take 8 39 (.pointer (some ⟨p, 1, none⟩)) [] rfl rfl (by kernel_rfl) (by kernel_rfl) (by kernel_rfl) (by kernel_rfl) (by kernel_rfl) (fun _ _ _ h => h) (by rfl) (fun u _ => by go_simp) hS ?_
      simp only [Act.put, List.setIfInBounds_toArray, List.set_cons_zero, List.set_cons_succ]
      refine wpAnyL_take 9 40 (.slice (some ⟨q, 0, none⟩) m cap) [] rfl rfl (by kernel_rfl) (by kernel_rfl) (by kernel_rfl) (by kernel_rfl) (by kernel_rfl) (fun _ _ _ h => h) (by rfl) (fun u hu => by obtain ⟨s1, s2, s3, s4, s5⟩ := hu; go_simp) hS ?_
      simp only [Act.put, List.setIfInBounds_toArray, List.set_cons_zero, List.set_cons_succ]
      refine wpAnyL_take 10 41 (.int .i64 (k : Int)) [] rfl rfl (by kernel_rfl) (by kernel_rfl) (by kernel_rfl) (by kernel_rfl) (by kernel_rfl) (fun _ _ _ h => h) (by rfl) (fun u _ => by go_simp) hS ?_
      simp only [Act.put, List.setIfInBounds_toArray, List.set_cons_zero, List.set_cons_succ]
      refine wpAnyL_take 11 42 (.pointer (some ⟨q, k, none⟩)) [] rfl rfl (by kernel_rfl) (by kernel_rfl) (by kernel_rfl) (by kernel_rfl) (by kernel_rfl) (fun _ _ _ h => h) (by rfl) (fun u _ => by go_simp) hS ?_
      simp only [Act.put, List.setIfInBounds_toArray, List.set_cons_zero, List.set_cons_succ]
      refine wpAnyL_take 12 43 (.int .u64 (W : Int)) [] rfl rfl (by kernel_rfl) (by kernel_rfl) (by kernel_rfl) (by kernel_rfl) (by kernel_rfl) (fun _ _ _ h => h) (by rfl) (fun u hu => by obtain ⟨s1, s2, s3, s4, s5⟩ := hu; go_simp) hS ?_
      simp only [Act.put, List.setIfInBounds_toArray, List.set_cons_zero, List.set_cons_succ]
      refine wpAnyL_take 13 44 (.pointer (some ⟨p', 0, none⟩)) [] rfl rfl (by kernel_rfl) (by kernel_rfl) (by kernel_rfl) (by kernel_rfl) (by kernel_rfl) (fun _ _ _ h => h) (by rfl) (fun u _ => by go_simp) hS ?_
      simp only [Act.put, List.setIfInBounds_toArray, List.set_cons_zero, List.set_cons_succ]
      refine wpAnyL_take 14 45 (.pointer (some ⟨p', 0, none⟩)) [] rfl rfl (by kernel_rfl) (by kernel_rfl) (by kernel_rfl) (by kernel_rfl) (by kernel_rfl) (fun _ _ _ h => h) (by rfl) (fun u _ => by go_simp) hS ?_
      simp only [Act.put, List.setIfInBounds_toArray, List.set_cons_zero, List.set_cons_succ]
      refine wpAnyL_take 15 46 (.pointer (some ⟨p', 1, none⟩)) [] rfl rfl (by kernel_rfl) (by kernel_rfl) (by kernel_rfl) (by kernel_rfl) (by kernel_rfl) (fun _ _ _ h => h) (by rfl) (fun u _ => by go_simp) hS ?_
      simp only [Act.put, List.setIfInBounds_toArray, List.set_cons_zero, List.set_cons_succ]
      refine wpAnyL_take 16 47 (.slice (some ⟨q', 0, none⟩) m cap') [] rfl rfl (by kernel_rfl) (by kernel_rfl) (by kernel_rfl) (by kernel_rfl) (by kernel_rfl) (fun _ _ _ h => h) (by rfl) (fun u hu => by obtain ⟨s1, s2, s3, s4, s5⟩ := hu; go_simp) hS ?_
      simp only [Act.put, List.setIfInBounds_toArray, List.set_cons_zero, List.set_cons_succ]
      refine wpAnyL_take 17 48 (.int .i64 (k : Int)) [] rfl rfl (by kernel_rfl) (by kernel_rfl) (by kernel_rfl) (by kernel_rfl) (by kernel_rfl) (fun _ _ _ h => h) (by rfl) (fun u _ => by go_simp) hS ?_
      simp only [Act.put, List.setIfInBounds_toArray, List.set_cons_zero, List.set_cons_succ]
      refine wpAnyL_take 18 49 (.pointer (some ⟨q', k, none⟩)) [] rfl rfl (by kernel_rfl) (by kernel_rfl) (by kernel_rfl) (by kernel_rfl) (by kernel_rfl) (fun _ _ _ h => h) (by rfl) (fun u _ => by go_simp) hS ?_
      simp only [Act.put, List.setIfInBounds_toArray, List.set_cons_zero, List.set_cons_succ]
      refine wpAnyL_take 19 50 (.int .u64 (V : Int)) [] rfl rfl (by kernel_rfl) (by kernel_rfl) (by kernel_rfl) (by kernel_rfl) (by kernel_rfl) (fun _ _ _ h => h) (by rfl) (fun u hu => by obtain ⟨s1, s2, s3, s4, s5⟩ := hu; go_simp) hS ?_
      simp only [Act.put, List.setIfInBounds_toArray, List.set_cons_zero, List.set_cons_succ]
      refine wpAnyL_one (i := 20) (by kernel_rfl) rfl (by rfl) fun K hK => ?_
      go_simp
      refine (unhide HC _).mono ?_
      rintro e w1 ⟨rfl, hw1⟩
      obtain rfl := hw1.symm
      refine hK _ _ (fun _ => hS) ?_
      clear hK K hw1
      refine wpAnyL_take 21 52 (.pointer (some ⟨q, k, none⟩)) [] rfl rfl (by kernel_rfl) (by kernel_rfl) (by kernel_rfl) (by kernel_rfl) (by kernel_rfl) (fun _ _ _ h => h) (by rfl) (fun u _ => by go_simp) hS ?_
      simp only [Act.put, List.setIfInBounds_toArray, List.set_cons_zero, List.set_cons_succ]
      refine wpAnyL_one (i := 22) (by kernel_rfl) rfl (by rfl) fun K hK => ?_
      obtain ⟨s1, s2, s3, s4, s5⟩ := hS
      go_simp
      refine hK _ _ (fun h => absurd rfl h) ?_
      clear hK K
      refine wpAnyL_done (by kernel_rfl) ?_ _
      go_wp2
      go_roundw
      case rel => exact ⟨k + 1, by omega, by go_num, hide ⟨(unhide HN).drew, (unhide HU _).drew⟩⟩
      case measure => simp [intOf]; omega
    · have hkk : k = m := by omega
      subst hkk
      have HF : Hid (Bit.mix R S k = R) := Bit.mix_all hR (unhide HH).lt (by have := unhide HM; omega)
      go_wp2
      go_ret
      exact ⟨rfl, ⟨by rw [← unhide HF]; exact (unhide HI).1, hR⟩, (unhide HI).2⟩
theorem bAnd {p q p' q' n S T : Nat} {w : World} (h : Bm w p q n S) (h' : Bm w p' q' n T) (hs : q' = q → S = T) : Calls Tryd.prog 34 #[.pointer (some ⟨p, 0, none⟩), .pointer (some ⟨p', 0, none⟩)] w fun e w' => e = .returned (.int .i64 0) ∧ Bm w' p q n (S &&& T) ∧ U1 w w' q := by
  have HW := hide (bWithAnd h h' hs (R := S &&& T) (Nat.lt_of_le_of_lt Nat.and_le_left h.lt) (fun i u => by rw [Bit.word_and]; exact bAndIn _ _ (Bit.word_lt _ _) (Bit.word_lt _ _) u))
  have hmf : ∀ (fn : Fn) (first cap : Array Value) (w : World), (Instr.makeFunc fn first cap).run Tryd.prog w = .ok (.func fn first cap) w := fun _ _ _ _ => rfl
  clear h h' hs
  go_enter Tryd.func34, Tryd.ntmps34
  go_wp2_with fail
  refine (unhide HW).mono ?_
  rintro e w1 ⟨rfl, hm, hu⟩
  have HM := hide hm
  have HU := hide hu
  clear hm hu
  go_wp2
  go_ret
  exact ⟨rfl, unhide HM, unhide HU⟩
theorem bMinusIn (a b : Nat) (ha : a < 18446744073709551616) (hb : b < 18446744073709551616) (u : World) : Calls Tryd.prog 59 #[.int .u64 (a : Int), .int .u64 (b : Int)] u fun e w' => e = .returned (.int .u64 ((a &&& (18446744073709551615 - b) : Nat) : Int)) ∧ w' = u := by
  have h := u64_andNot_nat a b ha hb
  go_enter Tryd.func59, Tryd.ntmps59
  go_wp2
  go_ret
  exact ⟨rfl, rfl⟩
set_option maxRecDepth 100000 in
set_option maxHeartbeats 1000000 in
theorem bWithMinus {p q p' q' n S T R : Nat} {w : World} (h : Bm w p q n S) (h' : Bm w p' q' n T) (hs : q' = q → S = T) (hR : R < 2 ^ n) (hF : ∀ i u, Calls Tryd.prog 59 #[.int .u64 (Bit.word S i : Int), .int .u64 (Bit.word T i : Int)] u fun e w' => e = .returned (.int .u64 (Bit.word R i : Int)) ∧ w' = u) :
    Calls Tryd.prog 56 #[.pointer (some ⟨p, 0, none⟩), .pointer (some ⟨p', 0, none⟩), .func (.func 59) #[] #[]] w fun e w' => e = .returned (.int .i64 0) ∧ Bm w' p q n R ∧ U1 w w' q := by
  have h0 := h.c0
  have h0' := h'.c0
  obtain ⟨cap, h1⟩ := h.c1
  obtain ⟨cap', h1'⟩ := h'.c1
  have hle := h.le
  have HH := hide h
  obtain ⟨m, hm⟩ : ∃ m, m = (n + 63) / 64 := ⟨_, rfl⟩
  have hm2 : m ≤ 1024 := by omega
  rw [← hm] at h1 h1'
  have HM := hide hm
  have HP1 : Hid (∀ u, U1 w u q → u.cell? ⟨p, 1, none⟩ = some (.slice (some ⟨q, 0, none⟩) m cap)) := fun u hu => (World.cell?_of_block (a := ⟨p, 1, none⟩) (hu.block p h.plt h.bq.ne)).trans h1
  have HP2 : Hid (∀ u, U1 w u q → u.cell? ⟨p', 1, none⟩ = some (.slice (some ⟨q', 0, none⟩) m cap')) := fun u hu => (World.cell?_of_block (a := ⟨p', 1, none⟩) (hu.block p' h'.plt (h.ne' h'))).trans h1'
  have HP3 : Hid (∀ u k, U1 w u q → k < m → u.cell? ⟨q, k, none⟩ = some (.int .u64 (Bit.word S k : Int)) → u.cell? ⟨q', k, none⟩ = some (.int .u64 (Bit.word T k : Int))) := fun u k hu hk hc => by
    by_cases e : q' = q
    · rw [e, hc, hs e]
    · exact (World.cell?_of_block (a := ⟨q', k, none⟩) (hu.block q' h'.qlt e)).trans (h'.w k (by omega))
  have hpq := h.bq.ne
  have hpq' := h.ne' h'
  clear h h' hm hs
  go_enter Tryd.func56, Tryd.ntmps56
  go_wp2
  go_quiet (fail)
  go_wp2
  go_loopw [28] (fun i wr => ∃ k : Nat, k ≤ m ∧ i = .int .i64 k ∧ Hid (Bq wr p q n (Bit.mix R S k) ∧ U1 w wr q)) (fun i _ => m - (intOf i).toNat)
  case atStart => exact ⟨0, Nat.zero_le _, rfl, hide ⟨by rw [Bit.mix_zero]; exact (unhide HH).bq.drewN _, (U1.refl _ _).drewN _⟩⟩
  case round =>
    obtain ⟨k, hk, rfl, HI⟩ := hrel
    by_cases hlt : k < m
    · have g1 := unhide HP1 wr (unhide HI).2
      have g2 := (unhide HI).1.w k (by rw [← unhide HM]; exact hlt)
      rw [Bit.mix_at] at g2
      have g3 := (unhide HI).1.fz k
      have g4 := unhide HP2 wr (unhide HI).2
      have g5 := unhide HP3 wr k (unhide HI).2 hlt g2
      have hki : (k : Int) < (m : Int) := by omega
      have HN := hide ((unhide HI).1.lay (T := Bit.mix R S (k + 1)) (k := k) (Bit.mix_word R S k).symm (fun i hi => Bit.mix_other R S k i hi))
      have HU := hide (fun v => (unhide HI).2.set k v)
      have HC := hide (hF k)
      generalize Bit.word S k = W at *
      generalize Bit.word T k = V at *
      generalize Bit.word R k = X at *
      clear HI hF
      go_wp2
      refine wp_region_last (fun u => u.cell? ⟨p, 1, none⟩ = some (.slice (some ⟨q, 0, none⟩) m cap) ∧ u.cell? ⟨p', 1, none⟩ = some (.slice (some ⟨q', 0, none⟩) m cap') ∧ u.cell? ⟨q, k, none⟩ = some (.int .u64 (W : Int)) ∧ u.cell? ⟨q', k, none⟩ = some (.int .u64 (V : Int)) ∧ u.frozen? ⟨q, k, none⟩ = false) 22 (by kernel_rfl) ⟨g1, g4, g2, g5, g3⟩ fun hS => ?_
      refine wpAnyL_take 0 31 (.pointer (some ⟨p, 0, none⟩)) [] rfl rfl (by kernel_rfl) (by kernel_rfl) (by kernel_rfl) (by kernel_rfl) (by kernel_rfl) (fun _ _ _ h => h) (by rfl) (fun u _ => by go_simp) hS ?_
      simp only [Act.put, List.setIfInBounds_toArray, List.set_cons_zero, List.set_cons_succ]
      refine wpAnyL_take 1 32 (.pointer (some ⟨p, 0, none⟩)) [] rfl rfl (by kernel_rfl) (by kernel_rfl) (by kernel_rfl) (by kernel_rfl) (by kernel_rfl) (fun _ _ _ h => h) (by rfl) (fun u _ => by go_simp) hS ?_
      simp only [Act.put, List.setIfInBounds_toArray, List.set_cons_zero, List.set_cons_succ]
      refine wpAnyL_take 2 33 (.pointer (some ⟨p, 1, none⟩)) [] rfl rfl (by kernel_rfl) (by kernel_rfl) (by kernel_rfl) (by kernel_rfl) (by kernel_rfl) (fun _ _ _ h => h) (by rfl) (fun u _ => by go_simp) hS ?_
      simp only [Act.put, List.setIfInBounds_toArray, List.set_cons_zero, List.set_cons_succ]
      refine wpAnyL_take 3 34 (.slice (some ⟨q, 0, none⟩) m cap) [] rfl rfl (by kernel_rfl) (by kernel_rfl) (by kernel_rfl) (by kernel_rfl) (by kernel_rfl) (fun _ _ _ h => h) (by rfl) (fun u hu => by obtain ⟨s1, s2, s3, s4, s5⟩ := hu; go_simp) hS ?_
      simp only [Act.put, List.setIfInBounds_toArray, List.set_cons_zero, List.set_cons_succ]
      refine wpAnyL_take 4 35 (.int .i64 (k : Int)) [] rfl rfl (by kernel_rfl) (by kernel_rfl) (by kernel_rfl) (by kernel_rfl) (by kernel_rfl) (fun _ _ _ h => h) (by rfl) (fun u _ => by go_simp) hS ?_
      simp only [Act.put, List.setIfInBounds_toArray, List.set_cons_zero, List.set_cons_succ]
      refine wpAnyL_take 5 36 (.func (.func 59) #[] #[]) [] rfl rfl (by kernel_rfl) (by kernel_rfl) (by kernel_rfl) (by kernel_rfl) (by kernel_rfl) (fun _ _ _ h => h) (by rfl) (fun u _ => by go_simp) hS ?_
      simp only [Act.put, List.setIfInBounds_toArray, List.set_cons_zero, List.set_cons_succ]
      refine wpAnyL_take 6 37 (.pointer (some ⟨p, 0, none⟩)) [] rfl rfl (by kernel_rfl) (by kernel_rfl) (by kernel_rfl) (by kernel_rfl) (by kernel_rfl) (fun _ _ _ h => h) (by rfl) (fun u _ => by go_simp) hS ?_
      simp only [Act.put, List.setIfInBounds_toArray, List.set_cons_zero, List.set_cons_succ]
      refine wpAnyL_take 7 38 (.pointer (some ⟨p, 0, none⟩)) [] rfl rfl (by kernel_rfl) (by kernel_rfl) (by kernel_rfl) (by kernel_rfl) (by kernel_rfl) (fun _ _ _ h => h) (by rfl) (fun u _ => by go_simp) hS ?_
      simp only [Act.put, List.setIfInBounds_toArray, List.set_cons_zero, List.set_cons_succ]
      refine wpAnyL_take 8 39 (.pointer (some ⟨p, 1, none⟩)) [] rfl rfl (by kernel_rfl) (by kernel_rfl) (by kernel_rfl) (by kernel_rfl) (by kernel_rfl) (fun _ _ _ h => h) (by rfl) (fun u _ => by go_simp) hS ?_
      simp only [Act.put, List.setIfInBounds_toArray, List.set_cons_zero, List.set_cons_succ]
      refine wpAnyL_take 9 40 (.slice (some ⟨q, 0, none⟩) m cap) [] rfl rfl (by kernel_rfl) (by kernel_rfl) (by kernel_rfl) (by kernel_rfl) (by kernel_rfl) (fun _ _ _ h => h) (by rfl) (fun u hu => by obtain ⟨s1, s2, s3, s4, s5⟩ := hu; go_simp) hS ?_
      simp only [Act.put, List.setIfInBounds_toArray, List.set_cons_zero, List.set_cons_succ]
      refine wpAnyL_take 10 41 (.int .i64 (k : Int)) [] rfl rfl (by kernel_rfl) (by kernel_rfl) (by kernel_rfl) (by kernel_rfl) (by kernel_rfl) (fun _ _ _ h => h) (by rfl) (fun u _ => by go_simp) hS ?_
      simp only [Act.put, List.setIfInBounds_toArray, List.set_cons_zero, List.set_cons_succ]
      refine wpAnyL_take 11 42 (.pointer (some ⟨q, k, none⟩)) [] rfl rfl (by kernel_rfl) (by kernel_rfl) (by kernel_rfl) (by kernel_rfl) (by kernel_rfl) (fun _ _ _ h => h) (by rfl) (fun u _ => by go_simp) hS ?_
      simp only [Act.put, List.setIfInBounds_toArray, List.set_cons_zero, List.set_cons_succ]
      refine wpAnyL_take 12 43 (.int .u64 (W : Int)) [] rfl rfl (by kernel_rfl) (by kernel_rfl) (by kernel_rfl) (by kernel_rfl) (by kernel_rfl) (fun _ _ _ h => h) (by rfl) (fun u hu => by obtain ⟨s1, s2, s3, s4, s5⟩ := hu; go_simp) hS ?_
      simp only [Act.put, List.setIfInBounds_toArray, List.set_cons_zero, List.set_cons_succ]
      refine wpAnyL_take 13 44 (.pointer (some ⟨p', 0, none⟩)) [] rfl rfl (by kernel_rfl) (by kernel_rfl) (by kernel_rfl) (by kernel_rfl) (by kernel_rfl) (fun _ _ _ h => h) (by rfl) (fun u _ => by go_simp) hS ?_
      simp only [Act.put, List.setIfInBounds_toArray, List.set_cons_zero, List.set_cons_succ]
      refine wpAnyL_take 14 45 (.pointer (some ⟨p', 0, none⟩)) [] rfl rfl (by kernel_rfl) (by kernel_rfl) (by kernel_rfl) (by kernel_rfl) (by kernel_rfl) (fun _ _ _ h => h) (by rfl) (fun u _ => by go_simp) hS ?_
      simp only [Act.put, List.setIfInBounds_toArray, List.set_cons_zero, List.set_cons_succ]
      refine wpAnyL_take 15 46 (.pointer (some ⟨p', 1, none⟩)) [] rfl rfl (by kernel_rfl) (by kernel_rfl) (by kernel_rfl) (by kernel_rfl) (by kernel_rfl) (fun _ _ _ h => h) (by rfl) (fun u _ => by go_simp) hS ?_
      simp only [Act.put, List.setIfInBounds_toArray, List.set_cons_zero, List.set_cons_succ]
      refine wpAnyL_take 16 47 (.slice (some ⟨q', 0, none⟩) m cap') [] rfl rfl (by kernel_rfl) (by kernel_rfl) (by kernel_rfl) (by kernel_rfl) (by kernel_rfl) (fun _ _ _ h => h) (by rfl) (fun u hu => by obtain ⟨s1, s2, s3, s4, s5⟩ := hu; go_simp) hS ?_
      simp only [Act.put, List.setIfInBounds_toArray, List.set_cons_zero, List.set_cons_succ]
      refine wpAnyL_take 17 48 (.int .i64 (k : Int)) [] rfl rfl (by kernel_rfl) (by kernel_rfl) (by kernel_rfl) (by kernel_rfl) (by kernel_rfl) (fun _ _ _ h => h) (by rfl) (fun u _ => by go_simp) hS ?_
      simp only [Act.put, List.setIfInBounds_toArray, List.set_cons_zero, List.set_cons_succ]
      refine wpAnyL_take 18 49 (.pointer (some ⟨q', k, none⟩)) [] rfl rfl (by kernel_rfl) (by kernel_rfl) (by kernel_rfl) (by kernel_rfl) (by kernel_rfl) (fun _ _ _ h => h) (by rfl) (fun u _ => by go_simp) hS ?_
      simp only [Act.put, List.setIfInBounds_toArray, List.set_cons_zero, List.set_cons_succ]
      refine wpAnyL_take 19 50 (.int .u64 (V : Int)) [] rfl rfl (by kernel_rfl) (by kernel_rfl) (by kernel_rfl) (by kernel_rfl) (by kernel_rfl) (fun _ _ _ h => h) (by rfl) (fun u hu => by obtain ⟨s1, s2, s3, s4, s5⟩ := hu; go_simp) hS ?_
      simp only [Act.put, List.setIfInBounds_toArray, List.set_cons_zero, List.set_cons_succ]
      refine wpAnyL_one (i := 20) (by kernel_rfl) rfl (by rfl) fun K hK => ?_
      go_simp
      refine (unhide HC _).mono ?_
      rintro e w1 ⟨rfl, hw1⟩
      obtain rfl := hw1.symm
      refine hK _ _ (fun _ => hS) ?_
      clear hK K hw1
      refine wpAnyL_take 21 52 (.pointer (some ⟨q, k, none⟩)) [] rfl rfl (by kernel_rfl) (by kernel_rfl) (by kernel_rfl) (by kernel_rfl) (by kernel_rfl) (fun _ _ _ h => h) (by rfl) (fun u _ => by go_simp) hS ?_
      simp only [Act.put, List.setIfInBounds_toArray, List.set_cons_zero, List.set_cons_succ]
      refine wpAnyL_one (i := 22) (by kernel_rfl) rfl (by rfl) fun K hK => ?_
      obtain ⟨s1, s2, s3, s4, s5⟩ := hS
      go_simp
      refine hK _ _ (fun h => absurd rfl h) ?_
      clear hK K
      refine wpAnyL_done (by kernel_rfl) ?_ _
      go_wp2
      go_roundw
      case rel => exact ⟨k + 1, by omega, by go_num, hide ⟨(unhide HN).drew, (unhide HU _).drew⟩⟩
      case measure => simp [intOf]; omega
    · have hkk : k = m := by omega
      subst hkk
      have HF : Hid (Bit.mix R S k = R) := Bit.mix_all hR (unhide HH).lt (by have := unhide HM; omega)
      go_wp2
      go_ret
      exact ⟨rfl, ⟨by rw [← unhide HF]; exact (unhide HI).1, hR⟩, (unhide HI).2⟩
theorem bMinus {p q p' q' n S T : Nat} {w : World} (h : Bm w p q n S) (h' : Bm w p' q' n T) (hs : q' = q → S = T) : Calls Tryd.prog 35 #[.pointer (some ⟨p, 0, none⟩), .pointer (some ⟨p', 0, none⟩)] w fun e w' => e = .returned (.int .i64 0) ∧ Bm w' p q n (Bit.minus S T) ∧ U1 w w' q := by
  have HW := hide (bWithMinus h h' hs (R := Bit.minus S T) (Bit.minus_lt h.lt T) (fun i u => by rw [Bit.word_minus]; exact bMinusIn _ _ (Bit.word_lt _ _) (Bit.word_lt _ _) u))
  have hmf : ∀ (fn : Fn) (first cap : Array Value) (w : World), (Instr.makeFunc fn first cap).run Tryd.prog w = .ok (.func fn first cap) w := fun _ _ _ _ => rfl
  clear h h' hs
  go_enter Tryd.func35, Tryd.ntmps35
  go_wp2_with fail
  refine (unhide HW).mono ?_
  rintro e w1 ⟨rfl, hm, hu⟩
  have HM := hide hm
  have HU := hide hu
  clear hm hu
  go_wp2
  go_ret
  exact ⟨rfl, unhide HM, unhide HU⟩
end Go.Proofs.YtinfmomhbegfhaaDoor
