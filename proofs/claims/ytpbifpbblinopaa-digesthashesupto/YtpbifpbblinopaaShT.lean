/- Words that are turned. -/
import Derived.Test.YtpbifpbblinopaaSh
import Derived.Laws.BitsAllLaws
import Derived.Deep.QuietTactic
namespace Go.Proofs.Ytpbifpbblinopaa
open Go.RowKit

theorem o32 (a b : Nat) (ha : a < 4294967296) (hb : b < 4294967296) : bits .or .u32 (a : Int) (b : Int) = ((a ||| b : Nat) : Int) := u32_or_nat a b ha hb
theorem x32 (a b : Nat) (ha : a < 4294967296) (hb : b < 4294967296) : bits .xor .u32 (a : Int) (b : Int) = ((a ^^^ b : Nat) : Int) := u32_xor_nat a b ha hb
theorem n32 (a b : Nat) (ha : a < 4294967296) (hb : b < 4294967296) : bits .and .u32 (a : Int) (b : Int) = ((a &&& b : Nat) : Int) := u32_and_nat a b ha hb
theorem not32 (a : Nat) (ha : a < 4294967296) : bits .xor .u32 IntKind.u32.max (a : Int) = ((4294967295 - a : Nat) : Int) := by
  show IntKind.u32.wrap ((BitVec.ofInt 32 4294967295 ^^^ BitVec.ofInt 32 (a : Int)).toNat : Int) = _
  have h2 : BitVec.ofInt 32 4294967295 = BitVec.allOnes 32 := by decide
  rw [h2, BitVec.allOnes_xor, BitVec.toNat_not, ofInt_u32 a (by omega), IntKind.wrap_u32]
  omega
theorem xor_lt {a b : Nat} (ha : a < 4294967296) (hb : b < 4294967296) : a ^^^ b < 4294967296 := Nat.xor_lt_two_pow (n := 32) ha hb
theorem and_lt {a b : Nat} (ha : a < 4294967296) : a &&& b < 4294967296 := Nat.lt_of_le_of_lt Nat.and_le_left ha
theorem Sha.rot_lt (x n : Nat) (hx : x < 4294967296) : Sha.rot x n < 4294967296 :=
  Nat.or_lt_two_pow (n := 32) (Nat.lt_of_le_of_lt (Nat.div_le_self _ _) hx) (Nat.mod_lt _ (by decide))
theorem div_int (x n : Nat) : ((x : Int) / 2 ^ n) = ((x / 2 ^ n : Nat) : Int) := by simp
theorem rot_int (x n : Nat) (hx : x < 4294967296) : bits .or .u32 ((x : Int) / 2 ^ n) ((x : Int) * 2 ^ (32 - n) % 4294967296) = ((Sha.rot x n : Nat) : Int) := by
  have e2 : ((x : Int) * 2 ^ (32 - n) % 4294967296) = ((x * 2 ^ (32 - n) % 4294967296 : Nat) : Int) := by simp
  rw [div_int, e2, o32 _ _ (Nat.lt_of_le_of_lt (Nat.div_le_self _ _) hx) (Nat.mod_lt _ (by decide))]
  rfl
theorem dTurned (x n : Nat) (w : World) (hx : x < 4294967296) (hn : n < 32) (hn0 : 0 < n) :
    Calls Try.prog 52 #[.int .u32 x, .int .u64 n] w fun e w' => e = .returned (.int .u32 (Sha.rot x n : Nat)) ∧ w' = w := by
  have hr := rot_int x n hx
  go_enter Try.func52, Try.ntmps52
  go_wp2
  go_ret
  exact ⟨rfl, rfl⟩
theorem mRight (x n : Nat) (w : World) (hx : x < 4294967296) (hn : n < 32) (hn0 : 0 < n) :
    Calls Try.prog 50 #[.int .u32 x, .int .i64 n] w fun e w' => e = .returned (.int .u32 (Sha.rot x n : Nat)) ∧ ∃ k, w' = w.drewN k := by
  have hr := rot_int x n hx
  obtain ⟨m, hm⟩ : ∃ m, m = 32 - n := ⟨_, rfl⟩
  have hw : IntKind.i64.wrap (32 - (n : Int)) = (m : Int) := by rw [IntKind.wrap_i64]; omega
  rw [← hm, ← IntKind.wrap_u32] at hr
  have hm32 : m < 32 := by omega
  clear hm
  go_enter Try.func50, Try.ntmps50
  go_wp2
  go_quiet (fail)
  go_wp2
  go_ret
  exact ⟨rfl, _, rfl⟩
/-- a word, turned twice and moved -/
def lo (x a b c : Nat) : Nat := x / 2 ^ c ^^^ (Sha.rot x a ^^^ Sha.rot x b)
theorem lo_lt (x a b c : Nat) (hx : x < 4294967296) : lo x a b c < 4294967296 := xor_lt (Nat.lt_of_le_of_lt (Nat.div_le_self _ _) hx) (xor_lt (Sha.rot_lt _ _ hx) (Sha.rot_lt _ _ hx))
theorem lo_s0 (x : Nat) : lo x 7 18 3 = Sha.s0 x := by unfold lo Sha.s0; rw [Nat.xor_comm]
theorem lo_s1 (x : Nat) : lo x 17 19 10 = Sha.s1 x := by unfold lo Sha.s1; rw [Nat.xor_comm]
theorem dLaidOver (x a b c : Nat) (w : World) (hx : x < 4294967296) (ha : a < 32) (ha0 : 0 < a) (hb : b < 32) (hb0 : 0 < b) (hc : c < 32) :
    Calls Try.prog 56 #[.int .u32 x, .int .u64 a, .int .u64 b, .int .u64 c] w fun e w' => e = .returned (.int .u32 (lo x a b c : Nat)) ∧ w' = w := by
  have h1 := dTurned x a w hx ha ha0
  have h2 := dTurned x b w hx hb hb0
  have e1 := x32 (Sha.rot x a) (Sha.rot x b) (Sha.rot_lt _ _ hx) (Sha.rot_lt _ _ hx)
  have e2 := x32 (x / 2 ^ c) (Sha.rot x a ^^^ Sha.rot x b) (Nat.lt_of_le_of_lt (Nat.div_le_self _ _) hx) (xor_lt (Sha.rot_lt _ _ hx) (Sha.rot_lt _ _ hx))
  rw [← div_int] at e2
  have H1 := hide h1
  have H2 := hide h2
  clear h1 h2
  go_enter Try.func56, Try.ntmps56
  go_wp2_with fail
  refine (unhide H1).mono ?_
  rintro e w1 ⟨rfl, rfl⟩
  go_wp2_with fail
  refine (unhide H2).mono ?_
  rintro e w1 ⟨rfl, rfl⟩
  go_wp2
  go_ret
  exact ⟨rfl, rfl⟩
end Go.Proofs.Ytpbifpbblinopaa
