/- Sketches: mixing, checks, places. -/
import Derived.Test.YtdmdenbpokmelaaSka
import Derived.Test.YtdmdenbpokmelaaLs
namespace Go.Proofs.Ytdmdenbpokmelaa.K
open Go.RowKit Go.Lib
theorem hide {p : Prop} (h : p) : Hid p := h
theorem unhide {p : Prop} (h : Hid p) : p := h
theorem u64n (n : Nat) : IntKind.u64.wrap (n : Int) = ((n % 18446744073709551616 : Nat) : Int) := by rw [IntKind.wrap_u64]; omega
theorem b_add (a b : BitVec 64) : IntKind.u64.wrap ((a.toNat : Int) + (b.toNat : Int)) = ((a + b).toNat : Int) := by
  rw [← Int.natCast_add, u64n, BitVec.toNat_add]
theorem b_one (a : BitVec 64) : IntKind.u64.wrap ((a.toNat : Int) + 1) = ((a + 1).toNat : Int) := b_add a 1
theorem b_mul (a b : BitVec 64) (n : Int) (hn : n = (b.toNat : Int)) : IntKind.u64.wrap ((a.toNat : Int) * n) = ((a * b).toNat : Int) := by
  rw [hn, ← Int.natCast_mul, u64n, BitVec.toNat_mul]
theorem b_m1 (a : BitVec 64) : IntKind.u64.wrap ((a.toNat : Int) * 11400714819323198485) = ((a * 11400714819323198485).toNat : Int) := b_mul a 11400714819323198485 _ rfl
theorem b_m2 (a : BitVec 64) : IntKind.u64.wrap ((a.toNat : Int) * 13787848793156543929) = ((a * 13787848793156543929).toNat : Int) := b_mul a 13787848793156543929 _ rfl
theorem b_m3 (a : BitVec 64) : IntKind.u64.wrap ((a.toNat : Int) * 10723151780598845931) = ((a * 10723151780598845931).toNat : Int) := b_mul a 10723151780598845931 _ rfl
theorem b_shr (a : BitVec 64) (k : Nat) : (a.toNat : Int) / ((2 ^ k : Nat) : Int) = ((a >>> k).toNat : Int) := by
  rw [BitVec.toNat_ushiftRight, Nat.shiftRight_eq_div_pow, Int.natCast_ediv]
theorem b_s30 (a : BitVec 64) : (a.toNat : Int) / (1073741824 : Int) = ((a >>> 30).toNat : Int) := b_shr a 30
theorem b_s27 (a : BitVec 64) : (a.toNat : Int) / (134217728 : Int) = ((a >>> 27).toNat : Int) := b_shr a 27
theorem b_s31 (a : BitVec 64) : (a.toNat : Int) / (2147483648 : Int) = ((a >>> 31).toNat : Int) := b_shr a 31
theorem b_xor (a b : BitVec 64) : bits .xor .u64 (a.toNat : Int) (b.toNat : Int) = ((a ^^^ b).toNat : Int) := by
  rw [u64_xor_nat _ _ a.isLt b.isLt, BitVec.toNat_xor]
theorem b_xor32 (a b : BitVec 32) : bits .xor .u32 (a.toNat : Int) (b.toNat : Int) = ((a ^^^ b).toNat : Int) := by
  rw [u32_xor_nat _ _ a.isLt b.isLt, BitVec.toNat_xor]
set_option maxHeartbeats 1000000 in
theorem kMix (x j : BitVec 64) (u : World) : Calls Try.prog 53 #[.int .u64 x.toNat, .int .u64 j.toNat] u fun e u' => e = .returned (.int .u64 ((mixB x j).toNat : Int)) ∧ u' = u := by
  go_enter Try.func53, Try.ntmps53
  go_wp2
  go_ret
  refine ⟨?_, rfl⟩
  simp only [b_one, b_m1, b_add, b_s30, b_xor, b_m2, b_s27, b_m3, b_s31]
  rfl
theorem kMixN (x : BitVec 64) (j : Nat) (hj : j < 4) (u : World) : Calls Try.prog 53 #[.int .u64 x.toNat, .int .u64 (j : Int)] u fun e u' => e = .returned (.int .u64 ((mixB x (BitVec.ofNat 64 j)).toNat : Int)) ∧ u' = u := by
  have h := kMix x (BitVec.ofNat 64 j) u
  have e : (BitVec.ofNat 64 j).toNat = j := by rw [BitVec.toNat_ofNat]; exact Nat.mod_eq_of_lt (by omega)
  rw [e] at h
  exact h
set_option maxHeartbeats 1000000 in
theorem kChk (x : BitVec 64) (u : World) : Calls Try.prog 39 #[.int .u64 x.toNat] u fun e u' => e = .returned (.int .u32 ((chk x).toNat : Int)) ∧ u' = u := by
  have HM := hide (kMixN x 3 (by omega) u)
  obtain ⟨m, hm⟩ : ∃ m, m = mixB x (BitVec.ofNat 64 3) := ⟨_, rfl⟩
  have hc : ((chk x).toNat : Int) = IntKind.u32.wrap (m.toNat : Int) := by
    rw [hm, IntKind.wrap_u32]
    unfold chk
    rw [BitVec.toNat_setWidth]
    show (((mixB x 3).toNat % 2 ^ 32 : Nat) : Int) = _
    rw [show (BitVec.ofNat 64 3 : BitVec 64) = 3 from rfl]
    generalize (mixB x 3).toNat = q
    omega
  rw [hc]
  rw [← hm] at HM
  clear hm hc
  go_enter Try.func39, Try.ntmps39
  go_wp2_with (first
    | (go_at_call 53; refine (unhide HM).mono ?_; rintro e W1 ⟨rfl, rfl⟩)
    | fail)
  go_ret
  exact ⟨rfl, rfl⟩
end Go.Proofs.Ytdmdenbpokmelaa.K
