/- Next: the least one from a number on. -/
import Derived.Test.YtinfmomhbegfhaaDoorBz
import Derived.Test.YtinfmomhbegfhaaDoorBx
import Derived.Test.YtinfmomhbegfhaaDoorBe
import Derived.BigQuiet
namespace Go.Proofs.YtinfmomhbegfhaaDoor
open Go.RowKit

namespace Bit
/-- those that are in, from a number on, rising -/
def els (S n X : Nat) : List Nat := (List.range' X (n - X)).filter fun i => S.testBit i
theorem els_mem {S n X y : Nat} : y ∈ els S n X ↔ X ≤ y ∧ y < n ∧ S.testBit y = true := by
  rw [els, List.mem_filter, List.mem_range'_1]
  constructor
  · rintro ⟨⟨h1, h2⟩, h3⟩
    exact ⟨h1, by omega, h3⟩
  · rintro ⟨h1, h2, h3⟩
    exact ⟨⟨h1, by omega⟩, h3⟩
theorem els_none {S n X : Nat} (h : ∀ i, X ≤ i → i < n → S.testBit i = false) : els S n X = [] := by
  rw [List.eq_nil_iff_forall_not_mem]
  intro y hy
  obtain ⟨h1, h2, h3⟩ := els_mem.1 hy
  rw [h y h1 h2] at h3
  cases h3
theorem els_skip {S n X : Nat} (hX : X < n) (h : S.testBit X = false) : els S n X = els S n (X + 1) := by
  rw [els, els, show n - X = (n - (X + 1)) + 1 from by omega, List.range'_succ, List.filter_cons, if_neg (by rw [h]; simp)]
theorem els_hit {S n X : Nat} (hX : X < n) (h : S.testBit X = true) : els S n X = X :: els S n (X + 1) := by
  rw [els, els, show n - X = (n - (X + 1)) + 1 from by omega, List.range'_succ, List.filter_cons, if_pos h]
theorem els_some {S n y : Nat} (hy : y < n) (hb : S.testBit y = true) : ∀ d X, X + d = y → (∀ i, X ≤ i → i < y → S.testBit i = false) → els S n X = y :: els S n (y + 1)
  | 0, X, e, _ => by rw [Nat.add_zero] at e; subst e; exact els_hit hy hb
  | d + 1, X, e, h => by rw [els_skip (by omega) (h X (Nat.le_refl _) (by omega)), els_some hy hb d (X + 1) (by omega) (fun i h1 h2 => h i (by omega) h2)]
theorem lt_of_bit {S n y : Nat} (h : S < 2 ^ n) (hb : S.testBit y = true) : y < n := by
  rcases Nat.lt_or_ge y n with h1 | h1
  · exact h1
  · rw [Nat.testBit_lt_two_pow (Nat.lt_of_lt_of_le h (Nat.pow_le_pow_right (by decide) h1))] at hb
    cases hb
/-- a word without its lowest bits -/
def high (S X k : Nat) : Nat := word S k &&& (18446744073709551615 - (2 ^ min (X - 64 * k) 64 - 1))
theorem high_bit (S X k t : Nat) : (high S X k).testBit t = (decide (t < 64) && (S.testBit (64 * k + t) && decide (X ≤ 64 * k + t))) := by
  rw [high, Nat.testBit_and, mask_bit _ _ (Nat.min_le_right _ _), word_bit]
  by_cases ht : t < 64
  · have e : (t < min (X - 64 * k) 64) ↔ ¬ (X ≤ 64 * k + t) := by omega
    simp only [ht, e, decide_true, Bool.true_and]
    by_cases h : X ≤ 64 * k + t <;> simp [h]
  · simp [ht]
theorem high_lt (S X k : Nat) : high S X k < 18446744073709551616 := Nat.lt_of_le_of_lt Nat.and_le_left (word_lt S k)
theorem high_none {S X k : Nat} (h : high S X k = 0) (hb : ∀ i, X ≤ i → i < 64 * k → S.testBit i = false) : ∀ i, X ≤ i → i < 64 * (k + 1) → S.testBit i = false := fun i h1 h2 => by
  by_cases hi : i < 64 * k
  · exact hb i h1 hi
  · have e := high_bit S X k (i - 64 * k)
    rw [h, Nat.zero_testBit, show 64 * k + (i - 64 * k) = i from by omega, decide_eq_true (show i - 64 * k < 64 by omega), decide_eq_true h1] at e
    simpa using e.symm
theorem high_some {S n X k t : Nat} (hS : S < 2 ^ n) (h : Low (high S X k) t) (hb : ∀ i, X ≤ i → i < 64 * k → S.testBit i = false) : els S n X = (64 * k + t) :: els S n (64 * k + t + 1) ∧ 64 * k + t < n ∧ X ≤ 64 * k + t := by
  have e := h.bit
  rw [high_bit] at e
  simp only [Bool.and_eq_true, decide_eq_true_eq] at e
  obtain ⟨h1, h2, h3⟩ := e
  have hlt := lt_of_bit hS h2
  refine ⟨els_some hlt h2 (64 * k + t - X) X (by omega) (fun i hi1 hi2 => ?_), hlt, h3⟩
  by_cases hi : i < 64 * k
  · exact hb i hi1 hi
  · have e := h.below (i - 64 * k) (by omega)
    rw [high_bit, show 64 * k + (i - 64 * k) = i from by omega, decide_eq_true (show i - 64 * k < 64 by omega), decide_eq_true hi1] at e
    simpa using e
end Bit
/-- what Next answers -/
def Nexts (S n X : Nat) (v : Value) : Prop :=
  (∃ y, Bit.els S n X = y :: Bit.els S n (y + 1) ∧ y < n ∧ X ≤ y ∧ v = .tuple #[.int .i64 (y : Int), .bool true]) ∨ (Bit.els S n X = [] ∧ v = .tuple #[.int .i64 0, .bool false])
set_option maxRecDepth 100000 in
set_option maxHeartbeats 2000000 in
theorem bNext {p q n S : Nat} {w : World} (h : Bm w p q n S) (hT : Tab w) (x : Int) (X : Nat) (hX : max x 0 = (X : Int)) (hX2 : X ≤ 9223372036854775807) : Calls Tryd.prog 29 #[.pointer (some ⟨p, 0, none⟩), .int .i64 x] w fun e w' => (∃ v, e = .returned v ∧ Nexts S n X v) ∧ ∃ c, w' = w.drewN c := by
  obtain ⟨cap, h1⟩ := h.c1
  have HB := hide (fun c => h.drewN c)
  have HT := hide hT
  have HLT := hide h.lt
  have hle := h.le
  obtain ⟨m, hm⟩ : ∃ m, m = (n + 63) / 64 := ⟨_, rfl⟩
  have hm2 : m ≤ 1024 := by omega
  rw [← hm] at h1
  have HM := hide hm
  obtain ⟨k0, hk0⟩ : ∃ k0, k0 = X / 64 := ⟨_, rfl⟩
  have hdv : (X : Int) / 64 = (k0 : Int) := by omega
  have HK0 := hide hk0
  have HX2 := hide hX2
  have hk2 : (k0 : Int) ≤ 144115188075855872 := by omega
  clear h hm hT hk0 hX2
  go_enter Tryd.func29, Tryd.ntmps29
  go_wp2
  go_loopw [6] (fun i wr => ∃ k : Nat, k0 ≤ k ∧ i = .int .i64 k ∧ Hid ((∃ c, wr = w.drewN c) ∧ (k ≤ m ∨ k = k0) ∧ ∀ j, X ≤ j → j < 64 * k → S.testBit j = false)) (fun i _ => m - (intOf i).toNat)
  case atStart => exact ⟨k0, Nat.le_refl _, rfl, hide ⟨⟨0, rfl⟩, .inr rfl, fun j h1 h2 => by have := unhide HK0; omega⟩⟩
  case round =>
    obtain ⟨k, hk, rfl, HI⟩ := hrel
    have g1 : wr.cell? ⟨p, 1, none⟩ = some (.slice (some ⟨q, 0, none⟩) m cap) := by
      obtain ⟨c, e⟩ := (unhide HI).1
      rw [e]; exact h1
    by_cases hlt : k < m
    · have hki : (k : Int) < (m : Int) := by omega
      have g2 : wr.cell? ⟨q, k, none⟩ = some (.int .u64 (Bit.word S k : Int)) := by
        obtain ⟨c, e⟩ := (unhide HI).1
        rw [e]; exact (unhide HB c).w k (by rw [← unhide HM]; exact hlt)
      have gT : Hid (∀ c, Tab (wr.drewN c)) := fun c => by
        obtain ⟨d, e⟩ := (unhide HI).1
        rw [e]; exact ((unhide HT).drewN d).drewN c
      have HLb := hide (fun u => bLowest ((X : Int) - (k : Int) * 64) (min (X - 64 * k) 64) (by omega) u)
      have hW := Bit.word_lt S k
      have low : 2 ^ min (X - 64 * k) 64 - 1 < 18446744073709551616 := by
        have : 2 ^ min (X - 64 * k) 64 ≤ 2 ^ 64 := Nat.pow_le_pow_right (by decide) (Nat.min_le_right _ _)
        have : (2 : Nat) ^ 64 = 18446744073709551616 := rfl
        omega
      have hwb := wrap_small ((X : Int) - (k : Int) * 64) (by have := unhide HX2; omega) (by have := unhide HX2; omega)
      have han := u64_andNot_nat (Bit.word S k) (2 ^ min (X - 64 * k) 64 - 1) hW low
      obtain ⟨V, hV⟩ : ∃ V, V = Bit.high S X k := ⟨_, rfl⟩
      have hV' : Bit.word S k &&& (18446744073709551615 - (2 ^ min (X - 64 * k) 64 - 1)) = V := hV.symm
      rw [hV'] at han
      have HVL : Hid (V < 18446744073709551616) := by rw [hV]; exact Bit.high_lt S X k
      generalize Bit.word S k = W at *
      generalize 2 ^ min (X - 64 * k) 64 - 1 = Y at *
      have HV := hide hV
      clear hV hV' hW low
      by_cases h0 : V = 0
      · have HN : Hid (∀ i, X ≤ i → i < 64 * (k + 1) → S.testBit i = false) := Bit.high_none (by rw [← unhide HV]; exact h0) (unhide HI).2.2
        subst h0
        go_wp2
        go_quiet ((go_at_call 51; exact Calls.quiet_of_same (unhide HLb _)))
        go_wp2
        go_roundw
        case rel => exact ⟨k + 1, by omega, by go_num, hide ⟨more (unhide HI).1 _, .inl (by omega), unhide HN⟩⟩
        case measure => simp [intOf]; omega
      · have hV0 : ¬ (V : Int) = 0 := by omega
        have HTz := hide (fun c => bTz V h0 (unhide HVL) (wr.drewN c) (unhide gT c))
        have HV0 := hide h0
        clear h0
        go_wp2
        go_quiet ((go_at_call 51; exact Calls.quiet_of_same (unhide HLb _)))
        go_wp2_with fail
        refine (unhide HTz _).mono ?_
        rintro e w1 ⟨t, hlow, ht, rfl, hw⟩
        obtain rfl := hw.symm
        clear hw
        rw [unhide HV] at hlow
        obtain ⟨e1, e2, e3⟩ := Bit.high_some (unhide HLT) hlow (unhide HI).2.2
        have HE1 := hide e1
        have HE2 := hide e2
        have HE3 := hide e3
        clear hlow e1 e2 e3
        go_wp2
        go_ret2
        refine ⟨⟨_, rfl, .inl ⟨64 * k + t, unhide HE1, unhide HE2, unhide HE3, ?_⟩⟩, more (unhide HI).1 _⟩
        show Value.tuple #[.int .i64 ((k : Int) * 64 + (t : Int)), .bool true] = _
        congr 4
        omega
    · have hki : ¬ (k : Int) < (m : Int) := by omega
      have HN : Hid (Bit.els S n X = []) := Bit.els_none fun i hi1 hi2 => by
        have hm := unhide HM
        rcases (unhide HI).2.1 with e | e
        · exact (unhide HI).2.2 i hi1 (by omega)
        · have := unhide HK0
          exact (unhide HI).2.2 i hi1 (by omega)
      go_wp2
      go_ret2
      exact ⟨⟨_, rfl, .inr ⟨unhide HN, rfl⟩⟩, (unhide HI).1⟩
end Go.Proofs.YtinfmomhbegfhaaDoor
