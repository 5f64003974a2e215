/- Sorting numbers of 64 bits: how many bits a length has; the next power of two; the generator; breakPatterns. -/
import Derived.Test.YtopabadnbelegaaQSoi
import Derived.Sort.LotD5
namespace Go.Proofs.Ytopabadnbelegaa.K
open Go.RowKit Go.Lib
def bytes8 : ByteArray := ⟨#[0,1,2,2,3,3,3,3,4,4,4,4,4,4,4,4,5,5,5,5,5,5,5,5,5,5,5,5,5,5,5,5,6,6,6,6,6,6,6,6,6,6,6,6,6,6,6,6,6,6,6,6,6,6,6,6,6,6,6,6,6,6,6,6,7,7,7,7,7,7,7,7,7,7,7,7,7,7,7,7,7,7,7,7,7,7,7,7,7,7,7,7,7,7,7,7,7,7,7,7,7,7,7,7,7,7,7,7,7,7,7,7,7,7,7,7,7,7,7,7,7,7,7,7,7,7,7,7,8,8,8,8,8,8,8,8,8,8,8,8,8,8,8,8,8,8,8,8,8,8,8,8,8,8,8,8,8,8,8,8,8,8,8,8,8,8,8,8,8,8,8,8,8,8,8,8,8,8,8,8,8,8,8,8,8,8,8,8,8,8,8,8,8,8,8,8,8,8,8,8,8,8,8,8,8,8,8,8,8,8,8,8,8,8,8,8,8,8,8,8,8,8,8,8,8,8,8,8,8,8,8,8,8,8,8,8,8,8,8,8,8,8,8,8,8,8,8,8,8,8,8,8,8,8,8,8]⟩
theorem bytes8_size : bytes8.size = 256 := by decide +kernel
theorem bytes8_all : ∀ i : Fin 256, (bytes8[i.1]'(by rw [bytes8_size]; exact i.2)).toNat = Sort.bitsLen i.1 ∧ Sort.bitsLen i.1 ≤ 8 := by decide +kernel
theorem bitsLen_256 (n : Nat) (h : 256 ≤ n) : Sort.bitsLen n = Sort.bitsLen (n / 256) + 8 := by
  apply Nat.le_antisymm
  · rw [Sort.bitsLen_le_iff]
    have h1 := Sort.lt_two_pow_bitsLen (n / 256)
    rw [Nat.pow_add]
    generalize 2 ^ Sort.bitsLen (n / 256) = p at *
    omega
  · rcases Nat.lt_or_ge (Sort.bitsLen n) 8 with q | q
    · exfalso
      have h1 := Sort.lt_two_pow_bitsLen n
      have h2 : 2 ^ Sort.bitsLen n ≤ 2 ^ 8 := Nat.pow_le_pow_right (by decide) (by omega)
      omega
    · have h3 : Sort.bitsLen (n / 256) ≤ Sort.bitsLen n - 8 := by
        rw [Sort.bitsLen_le_iff]
        have h1 := Sort.lt_two_pow_bitsLen n
        have h4 : 2 ^ Sort.bitsLen n = 2 ^ (Sort.bitsLen n - 8) * 256 := by
          rw [show (256 : Nat) = 2 ^ 8 by decide, ← Nat.pow_add]
          congr 1
          omega
        rw [h4] at h1
        exact Nat.div_lt_of_lt_mul (by rw [Nat.mul_comm]; exact h1)
      omega
theorem w8 (n : Nat) (h : n < 256) (q : n < bytes8.size) : wrap64 (wrap64 (((bytes8[n]'q).toNat : Nat) : Int)) = (Sort.bitsLen n : Int) := by
  have e := bytes8_all ⟨n, h⟩
  have e1 : (bytes8[n]'q).toNat = Sort.bitsLen n := e.1
  rw [e1]
  have e2 := e.2
  dsimp only at e2
  simp only [wrap64]
  omega
theorem w8b (n : Nat) (h : n < 256) (q : n < bytes8.size) : wrap64 (8 + wrap64 (((bytes8[n]'q).toNat : Nat) : Int)) = (Sort.bitsLen n : Int) + 8 := by
  have e := bytes8_all ⟨n, h⟩
  have e1 : (bytes8[n]'q).toNat = Sort.bitsLen n := e.1
  rw [e1]
  have e2 := e.2
  dsimp only at e2
  simp only [wrap64]
  omega
set_option maxRecDepth 100000 in
theorem kLen64s (n : Nat) (hn : n < 65536) (u : World) : Calls Try.prog 65 #[.int .u64 (n : Int)] u fun e u' => e = .returned (.int .i64 (Sort.bitsLen n : Int)) ∧ u' = u := by
  have h1 : ¬ (n : Int) ≥ 4294967296 := by omega
  have h2 : ¬ (n : Int) ≥ 65536 := by omega
  by_cases h : n < 256
  · have h3 : ¬ (n : Int) ≥ 256 := by omega
    go_enter Try.func65, Try.ntmps65
    go_wp2
    go_ret
    refine ⟨?_, rfl⟩
    exact congrArg (fun z => Ending.returned (Value.int .i64 z)) (w8 n h (by rw [bytes8_size]; exact h))
  · have h3 : (n : Int) ≥ 256 := by omega
    obtain ⟨m, hm⟩ : ∃ m, m = n / 256 := ⟨_, rfl⟩
    have hmi : (n : Int) / 256 = (m : Int) := by omega
    have hm2 : m < 256 := by omega
    have hE : Hid (Sort.bitsLen n = Sort.bitsLen m + 8) := by show _ = _; rw [hm]; exact bitsLen_256 n (by omega)
    have HM2 := hide hm2
    have hmb : (m : Int) < 256 := by omega
    clear hm h hn hm2
    go_enter Try.func65, Try.ntmps65
    go_wp2
    go_ret
    refine ⟨?_, rfl⟩
    rw [unhide hE]
    exact congrArg (fun z => Ending.returned (Value.int .i64 z)) (w8b m (unhide HM2) (by rw [bytes8_size]; exact unhide HM2))
theorem kLenS (n : Nat) (hn : n < 65536) (u : World) : Calls Try.prog 43 #[.int .u64 (n : Int)] u fun e u' => e = .returned (.int .i64 (Sort.bitsLen n : Int)) ∧ u' = u := by
  have HL := hide (kLen64s n hn u)
  go_enter Try.func43, Try.ntmps43
  go_wp2_with (first
    | (go_at_call 65; refine (unhide HL).mono ?_; rintro e wq ⟨rfl, hwq⟩; obtain rfl := hwq.symm)
    | fail)
  go_ret
  exact ⟨rfl, rfl⟩
theorem pow_w (k : Nat) (hk : k ≤ 16) : IntKind.u64.wrap ((2 : Int) ^ k) = ((1 <<< k : Nat) : Int) := by
  have h : (2 : Nat) ^ k ≤ 2 ^ 16 := Nat.pow_le_pow_right (by decide) hk
  rw [IntKind.wrap_u64, Nat.one_shiftLeft, show ((2 : Int) ^ k) = ((2 ^ k : Nat) : Int) by push_cast; rfl]
  generalize (2 : Nat) ^ k = p at h
  omega
theorem kPow (n : Nat) (hn : n < 65536) (u : World) : Calls Try.prog 73 #[.int .i64 (n : Int)] u fun e u' => e = .returned (.int .u64 ((1 <<< Sort.bitsLen n : Nat) : Int)) ∧ u' = u := by
  have HL := hide (kLenS n hn u)
  have hk : Sort.bitsLen n ≤ 16 := (Sort.bitsLen_le_iff n 16).2 (by omega)
  have hp := pow_w _ hk
  go_enter Try.func73, Try.ntmps73
  go_wp2_with (first
    | (go_at_call 43; refine (unhide HL).mono ?_; rintro e wq ⟨rfl, hwq⟩; obtain rfl := hwq.symm)
    | fail)
  go_ret
  exact ⟨rfl, rfl⟩
end Go.Proofs.Ytopabadnbelegaa.K
