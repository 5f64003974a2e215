/- How many are in. -/
import Derived.Test.YtinfmomhbegfhaaDoorBp
import Derived.Test.YtinfmomhbegfhaaDoorBm
import Derived.Laws.Bits128
namespace Go.Proofs.YtinfmomhbegfhaaDoor
open Go.RowKit

theorem and_cast (a b c d : Nat) (e : Int) (ha : a < 18446744073709551616) (hb : b < 18446744073709551616) (he : e = ((d : Nat) : Int)) (hd : d = a) (hc : (a &&& b) = c) : bits .and .u64 e ((b : Nat) : Int) = (c : Int) := by
  subst hc; subst he; subst hd
  exact u64_and_nat d b ha hb
theorem bOnes (x : Nat) (hx : x < 18446744073709551616) (w : World) : Calls Tryd.prog 53 #[.int .u64 (x : Int)] w fun e w' => e = .returned (.int .i64 (Bit.count x 64 : Int)) ∧ w' = w := by
  obtain ⟨a1, b1, x1, a2, b2, x2, y3, x3, x4, x5, x6, ha1, hb1, hx1, lx1, ha2, hb2, hx2, lx2, hy3, ly3, hx3, hx4, lx4, hx5, lx5, hx6, lx6, hc⟩ := Bit.pops x
  have A1 : bits .and .u64 ((x : Int) / 2) 6148914691236517205 = (a1 : Int) := and_cast (x / 2) 6148914691236517205 a1 (x / 2) _ (by omega) (by decide) (by omega) rfl ha1
  have B1 : bits .and .u64 (x : Int) 6148914691236517205 = (b1 : Int) := and_cast x 6148914691236517205 b1 x _ (by omega) (by decide) (by omega) rfl hb1
  have X1 : IntKind.u64.wrap ((a1 : Int) + (b1 : Int)) = (x1 : Int) := by rw [IntKind.wrap_u64]; omega
  have A2 : bits .and .u64 ((x1 : Int) / 4) 3689348814741910323 = (a2 : Int) := and_cast (x1 / 4) 3689348814741910323 a2 (x1 / 4) _ (by omega) (by decide) (by omega) rfl ha2
  have B2 : bits .and .u64 (x1 : Int) 3689348814741910323 = (b2 : Int) := and_cast x1 3689348814741910323 b2 x1 _ (by omega) (by decide) (by omega) rfl hb2
  have X2 : IntKind.u64.wrap ((a2 : Int) + (b2 : Int)) = (x2 : Int) := by rw [IntKind.wrap_u64]; omega
  have Y3 : IntKind.u64.wrap ((x2 : Int) / 16 + (x2 : Int)) = (y3 : Int) := by rw [IntKind.wrap_u64]; omega
  have X3 : bits .and .u64 (y3 : Int) 1085102592571150095 = (x3 : Int) := and_cast y3 1085102592571150095 x3 y3 _ (by omega) (by decide) (by omega) rfl hx3
  have X4 : IntKind.u64.wrap ((x3 : Int) + (x3 : Int) / 256) = (x4 : Int) := by rw [IntKind.wrap_u64]; omega
  have X5 : IntKind.u64.wrap ((x4 : Int) + (x4 : Int) / 65536) = (x5 : Int) := by rw [IntKind.wrap_u64]; omega
  have X6 : IntKind.u64.wrap ((x5 : Int) + (x5 : Int) / 4294967296) = (x6 : Int) := by rw [IntKind.wrap_u64]; omega
  have X7 : IntKind.i64.wrap (x6 : Int) = (x6 : Int) := wrap_small _ (by omega) (by omega)
  have X8 : bits .and .i64 (x6 : Int) 127 = (Bit.count x 64 : Int) := by rw [i64_and127]; omega
  clear ha1 hb1 hx1 ha2 hb2 hx2 hy3 hx3 hx4 hx5 hx6 hc lx1 lx2 ly3 lx4 lx5
  go_enter Tryd.func53, Tryd.ntmps53
  go_wp2
  go_ret
  exact ⟨rfl, rfl⟩
theorem Bit.count_word (S k : Nat) : Bit.count S (64 * (k + 1)) = Bit.count S (64 * k) + Bit.count (Bit.word S k) 64 := by
  rw [show 64 * (k + 1) = 64 * k + 64 from by omega, Bit.count_add]
  congr 1
  refine Bit.count_congr 64 fun i hi => ?_
  rw [Bit.word_bit, Nat.testBit_div_two_pow, Nat.add_comm]
  simp [hi]
theorem bCount {p q n S : Nat} {w : World} (h : Bm w p q n S) : Calls Tryd.prog 21 #[.pointer (some ⟨p, 0, none⟩)] w fun e w' => e = .returned (.int .i64 (Bit.count S n : Int)) ∧ w' = w := by
  obtain ⟨cap, h1⟩ := h.c1
  have hle := h.le
  have HL := hide h.lt
  have HW : Hid (∀ i, i < (n + 63) / 64 → w.cell? ⟨q, i, none⟩ = some (.int .u64 (Bit.word S i : Int))) := fun i hi => h.w i hi
  obtain ⟨m, hm⟩ : ∃ m, m = (n + 63) / 64 := ⟨_, rfl⟩
  have hm2 : m ≤ 1024 := by omega
  rw [← hm] at h1 HW
  have HM := hide hm
  clear h hm
  go_enter Tryd.func21, Tryd.ntmps21
  go_wp2
  go_loopw [3, 13] (fun y i wr => ∃ k : Nat, k ≤ m ∧ i = .int .i64 k ∧ y = .int .i64 (Bit.count S (64 * k) : Int) ∧ wr = w) (fun _ i _ => m - (intOf i).toNat)
  case atStart => exact ⟨0, Nat.zero_le _, rfl, rfl, rfl⟩
  case round =>
    obtain ⟨k, hk, rfl, rfl, rfl⟩ := hrel
    by_cases hlt : k < m
    · have h2 := unhide HW k hlt
      have hki : (k : Int) < (m : Int) := by omega
      have HC := hide (Bit.count_word S k)
      have hb := Bit.count_le S (64 * k)
      have HO := hide (fun u => bOnes (Bit.word S k) (Bit.word_lt S k) u)
      have hb2 := Bit.count_le (Bit.word S k) 64
      generalize Bit.count (Bit.word S k) 64 = C at *
      generalize Bit.count S (64 * k) = D at *
      go_wp2_with (go_at_call 53; refine (unhide HO _).mono ?_; rintro e w1 ⟨rfl, hw1⟩; obtain rfl := hw1.symm; clear hw1)
      go_roundw
      case rel => exact ⟨k + 1, by omega, by go_num, by rw [unhide HC]; go_num, trivial⟩
      case measure => simp [intOf]; omega
    · have hkk : k = m := by omega
      subst hkk
      have e : Bit.count S (64 * k) = Bit.count S n := Bit.count_high (unhide HL) (by have := unhide HM; omega)
      rw [e]
      go_wp2
      go_ret
      exact ⟨rfl, rfl⟩
end Go.Proofs.YtinfmomhbegfhaaDoor
