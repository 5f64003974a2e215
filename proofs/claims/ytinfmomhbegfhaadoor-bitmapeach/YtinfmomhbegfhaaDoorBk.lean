/- Take and Has. -/
import Derived.Test.YtinfmomhbegfhaaDoorBm
import Derived.BigQuiet
namespace Go.Proofs.YtinfmomhbegfhaaDoor
open Go.RowKit

namespace Bit
/-- a number taken out -/
def out (S x : Nat) : Nat := S ^^^ (S &&& 2 ^ x)
theorem out_bit (S x j : Nat) : (out S x).testBit j = (S.testBit j && !decide (x = j)) := by
  rw [out, Nat.testBit_xor, Nat.testBit_and, Nat.testBit_two_pow]
  cases S.testBit j <;> cases decide (x = j) <;> rfl
theorem out_lt {S n : Nat} (h : S < 2 ^ n) (x : Nat) : out S x < 2 ^ n := Nat.xor_lt_two_pow h (Nat.lt_of_le_of_lt Nat.and_le_left h)
theorem hole_bit (r j : Nat) (hr : r < 64) : (18446744073709551615 - 2 ^ r).testBit j = (decide (j < 64) && !decide (r = j)) := by
  have h1 : 2 ^ r < 2 ^ 64 := Nat.pow_lt_pow_right (by decide) hr
  have h2 : (2 : Nat) ^ 64 = 18446744073709551616 := rfl
  rw [show 18446744073709551615 - 2 ^ r = 2 ^ 64 - (2 ^ r + 1) from by omega, Nat.testBit_two_pow_sub_succ h1, Nat.testBit_two_pow]
theorem word_out (S x : Nat) : word (out S x) (x / 64) = word S (x / 64) &&& (18446744073709551615 - 2 ^ (x % 64)) := by
  apply Nat.eq_of_testBit_eq
  intro j
  rw [word_bit, out_bit, Nat.testBit_and, word_bit, hole_bit _ _ (by omega)]
  by_cases hj : j < 64
  · have e : (x = 64 * (x / 64) + j) ↔ (x % 64 = j) := by omega
    simp only [hj, decide_true, Bool.true_and, decide_eq_decide.2 e]
  · simp [hj]
theorem word_out_other (S x i : Nat) (h : i ≠ x / 64) : word (out S x) i = word S i := by
  apply Nat.eq_of_testBit_eq
  intro j
  rw [word_bit, word_bit, out_bit]
  by_cases hj : j < 64
  · have : x ≠ 64 * i + j := by omega
    simp [this]
  · simp [hj]
theorem has_bit (S x : Nat) : decide (word S (x / 64) / 2 ^ (x % 64) % 2 = 1) = S.testBit x := by
  rw [← Nat.testBit_eq_decide_div_mod_eq, word_bit, show 64 * (x / 64) + x % 64 = x from by omega]
  have : x % 64 < 64 := by omega
  simp [this]
end Bit
set_option maxRecDepth 100000 in
theorem bTake {p q n S : Nat} {w : World} (h : Bm w p q n S) (x : Nat) (hx : x < n) : Calls Tryd.prog 25 #[.pointer (some ⟨p, 0, none⟩), .int .i64 (x : Int)] w fun e w' => e = .returned (.int .i64 0) ∧ Bm w' p q n (Bit.out S x) ∧ U1 w w' q := by
  have hr := bRefused h x hx
  obtain ⟨cap, h1⟩ := h.c1
  have hxw : x / 64 < (n + 63) / 64 := by omega
  have h2 := h.w (x / 64) hxw
  have h3 := h.fz (x / 64)
  have HP : Hid (Bm (w.setCell ⟨q, x / 64, none⟩ (.int .u64 ((Bit.word S (x / 64) &&& (18446744073709551615 - 2 ^ (x % 64)) : Nat) : Int))) p q n (Bit.out S x)) := ⟨h.bq.lay (Bit.word_out S x).symm (fun i hi => Bit.word_out_other S x i hi), Bit.out_lt h.lt x⟩
  have HU := hide ((U1.refl w q).set (x / 64) (.int .u64 ((Bit.word S (x / 64) &&& (18446744073709551615 - 2 ^ (x % 64)) : Nat) : Int)))
  have hl := Bit.word_lt S (x / 64)
  have hle := h.le
  have hor := u64_andNot_nat (Bit.word S (x / 64)) (2 ^ (x % 64)) hl (show 2 ^ (x % 64) < 2 ^ 64 from Nat.pow_lt_pow_right (by decide) (by omega))
  obtain ⟨t, ht⟩ : ∃ t, t = Bit.word S (x / 64) &&& (18446744073709551615 - 2 ^ (x % 64)) := ⟨_, rfl⟩
  rw [← ht] at HP HU hor
  clear ht
  generalize Bit.word S (x / 64) = W at *
  obtain ⟨m, hm⟩ : ∃ m, m = (n + 63) / 64 := ⟨_, rfl⟩
  rw [← hm] at h1 hxw
  obtain ⟨k, hk⟩ : ∃ k, k = x / 64 := ⟨_, rfl⟩
  obtain ⟨r, hr'⟩ : ∃ r, r = x % 64 := ⟨_, rfl⟩
  rw [← hk] at h2 h3 hxw HP HU
  rw [← hr'] at hor
  have e1 : (x : Int) / 64 = (k : Int) := by omega
  have e2 : (x : Int) % 64 = (r : Int) := by omega
  have hki : (k : Int) < (m : Int) := by omega
  have hsh : IntKind.u64.wrap (2 ^ r) = ((2 ^ r : Nat) : Int) := pow64 r (by omega)
  have HO : Hid (bits .andNot .u64 (W : Int) (2 ^ r) = (t : Int)) := by
    rw [show ((2 : Int) ^ r) = ((2 ^ r : Nat) : Int) from by simp]; exact hor
  clear hor
  have hk2 : k < 1024 := by omega
  have hm2 : m ≤ 1024 := by omega
  have hr2 : r < 64 := by omega
  clear h hx hm hk hr' hle hl
  go_enter Tryd.func25, Tryd.ntmps25
  go_wp2_with (go_at_call 52; refine hr.mono ?_; rintro e w1 ⟨rfl, rfl⟩)
  go_region
  rw [unhide HO]
  go_wp2
  go_ret
  exact ⟨rfl, (unhide HP).drew, (unhide HU).drew⟩
theorem and_one (a : Nat) (ha : a < 18446744073709551616) : bits .and .u64 (a : Int) 1 = ((a % 2 : Nat) : Int) := by
  have h := u64_and_nat a 1 ha (by decide)
  rw [Nat.and_one_is_mod] at h
  exact h
theorem bHas {p q n S : Nat} {w : World} (h : Bm w p q n S) (x : Nat) (hx : x < n) : Calls Tryd.prog 20 #[.pointer (some ⟨p, 0, none⟩), .int .i64 (x : Int)] w fun e w' => e = .returned (.bool (S.testBit x)) ∧ w' = w := by
  have hr := bRefused h x hx
  obtain ⟨cap, h1⟩ := h.c1
  have hxw : x / 64 < (n + 63) / 64 := by omega
  have h2 := h.w (x / 64) hxw
  have hl := Bit.word_lt S (x / 64)
  have hle := h.le
  have HB := hide (Bit.has_bit S x)
  have han := and_one (Bit.word S (x / 64) / 2 ^ (x % 64)) (Nat.lt_of_le_of_lt (Nat.div_le_self _ _) hl)
  generalize Bit.word S (x / 64) = W at *
  obtain ⟨m, hm⟩ : ∃ m, m = (n + 63) / 64 := ⟨_, rfl⟩
  rw [← hm] at h1 hxw
  obtain ⟨k, hk⟩ : ∃ k, k = x / 64 := ⟨_, rfl⟩
  obtain ⟨r, hr'⟩ : ∃ r, r = x % 64 := ⟨_, rfl⟩
  rw [← hk] at h2 hxw
  rw [← hr'] at HB han
  have e1 : (x : Int) / 64 = (k : Int) := by omega
  have e2 : (x : Int) % 64 = (r : Int) := by omega
  have hki : (k : Int) < (m : Int) := by omega
  have hk2 : k < 1024 := by omega
  have hm2 : m ≤ 1024 := by omega
  have hr2 : r < 64 := by omega
  have hdv : (W : Int) / 2 ^ r = ((W / 2 ^ r : Nat) : Int) := by simp
  have HAN := hide han
  have HDV := hide hdv
  clear h hx hm hk hr' hle hl han hdv
  go_enter Tryd.func20, Tryd.ntmps20
  go_wp2_with (go_at_call 52; refine hr.mono ?_; rintro e w1 ⟨rfl, hw1⟩; obtain rfl := hw1.symm; clear hw1)
  go_ret
  refine ⟨?_, rfl⟩
  have e : (bits .and .u64 ((W : Int) / 2 ^ r) 1 == 1) = S.testBit x := by
    rw [← unhide HB, unhide HDV, unhide HAN, Bool.eq_iff_iff]
    simp only [beq_iff_eq, decide_eq_true_eq]
    omega
  exact congrArg (fun b => Ending.returned (Value.bool b)) e
end Go.Proofs.YtinfmomhbegfhaaDoor
