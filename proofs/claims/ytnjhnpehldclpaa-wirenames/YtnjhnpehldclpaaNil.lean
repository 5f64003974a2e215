/- Of no writer and no reader: what each call of a nil one answers. -/
import Derived.Test.YtnjhnpehldclpaaRows
import Derived.WalkKit
import Derived.WalkLawsBesides
import Derived.ProofKit
import Derived.OpenShut
import Derived.Handy
namespace Go.Proofs.Ytnjhnpehldclpaa
open Go.RowKit

@[go_sem] theorem fbits (b : Nat) (w : World) : (callFunc 39 #[.float .f64 b]).run Try.prog w = .ok (.value (.int .u64 b)) w := by kernel_rfl
@[go_sem] theorem ffrom (n : Int) (w : World) : (callFunc 34 #[.int .u64 n]).run Try.prog w = .ok (.value (.float .f64 n.toNat)) w := by kernel_rfl
/-- is it no number? -/
def isNan (b : Nat) : Bool := FloatKind.f64.format.order b b != some .eq
theorem cNan (b : Nat) (w : World) : Calls Try.prog 40 #[.float .f64 b] w fun e w' => e = .returned (.bool (isNan b)) ∧ w' = w := by
  go_enter Try.func40, Try.ntmps40
  go_wp2
  go_ret
  exact ⟨rfl, rfl⟩
theorem isNan0 : isNan 0 = false := by kernel_rfl
theorem nByte (v : Int) (w : World) : Calls Try.prog 28 #[.pointer none, .int .u8 v] w fun e w' => e = .returned (.tuple #[]) ∧ w' = w := by
  go_enter Try.func28, Try.ntmps28
  go_wp2
  go_returns
  exact ⟨rfl, rfl⟩
theorem nRaw (s : ByteArray) (w : World) : Calls Try.prog 36 #[.pointer none, .string s] w fun e w' => e = .returned (.tuple #[]) ∧ w' = w := by
  go_enter Try.func36, Try.ntmps36
  go_wp2
  go_returns
  exact ⟨rfl, rfl⟩
theorem nLen (w : World) : Calls Try.prog 7 #[.pointer none] w fun e w' => e = .returned (.int .i64 0) ∧ w' = w := by
  go_enter Try.func7, Try.ntmps7
  go_wp2
  go_ret
  exact ⟨rfl, rfl⟩
theorem nTold (w : World) : Calls Try.prog 8 #[.pointer none] w fun e w' => e = .returned (.string ⟨#[]⟩) ∧ w' = w := by
  go_enter Try.func8, Try.ntmps8
  go_wp2
  go_ret
  exact ⟨rfl, rfl⟩
theorem nErr (w : World) : Calls Try.prog 21 #[.pointer none] w fun e w' => e = .returned (.int .i64 2) ∧ w' = w := by
  go_enter Try.func21, Try.ntmps21
  go_wp2
  go_ret
  exact ⟨rfl, rfl⟩
theorem nStopped (w : World) : Calls Try.prog 37 #[.pointer none] w fun e w' => e = .returned (.bool true) ∧ w' = w := by
  go_enter Try.func37, Try.ntmps37
  go_wp2
  go_ret
  exact ⟨rfl, rfl⟩

theorem nLowest (v n : Int) (w : World) (h0 : 0 ≤ n) (h1 : n ≤ 8) : Calls Try.prog 58 #[.pointer none, .int .u64 v, .int .i64 n] w fun e w' => e = .returned (.tuple #[]) ∧ w' = w := by
  go_enter Try.func58, Try.ntmps58
  go_wp2
  go_loop [8] (fun i => ∃ k : Int, 0 ≤ k ∧ k ≤ n ∧ i = .int .i64 k) (fun i => (n - intOf i).toNat)
  case atStart => exact ⟨0, by omega, by omega, rfl⟩
  case round =>
    obtain ⟨k, hk0, hk1, rfl⟩ := hrel
    by_cases hlt : k < n
    · go_wp2_with (go_at_call 28; refine (nByte _ _).mono ?_; rintro e w' ⟨rfl, rfl⟩)
      go_round
      case rel => exact ⟨k + 1, by omega, by omega, rfl⟩
      case measure => simp [intOf]; omega
    · go_wp2
      go_returns
      exact ⟨rfl, rfl⟩
theorem nUint (v : Int) (w : World) (h0 : 0 ≤ v) (h1 : v < 128) : Calls Try.prog 31 #[.pointer none, .int .u64 v] w fun e w' => e = .returned (.tuple #[]) ∧ w' = w := by
  go_enter Try.func31, Try.ntmps31
  go_wp2_with fail
  go_rounds 1
  go_returns
  exact ⟨rfl, rfl⟩
theorem nSmall (v : Int) (w : World) : Calls Try.prog 29 #[.pointer none, .int .i16 v] w fun e w' => e = .returned (.tuple #[]) ∧ w' = w := by
  go_enter Try.func29, Try.ntmps29
  go_wp2_with (go_at_call 58; refine (nLowest _ _ _ (by omega) (by omega)).mono ?_; rintro e w' ⟨rfl, rfl⟩)
  go_returns
  exact ⟨rfl, rfl⟩
theorem nFixed (v n : Int) (w : World) : Calls Try.prog 30 #[.pointer none, .int .u64 v, .int .i64 n] w fun e w' => e = .returned (.int .i64 2) ∧ w' = w := by
  go_enter Try.func30, Try.ntmps30
  go_wp2
  go_ret
  exact ⟨rfl, rfl⟩
theorem nInt (w : World) : Calls Try.prog 32 #[.pointer none, .int .i64 0] w fun e w' => e = .returned (.tuple #[]) ∧ w' = w := by
  go_enter Try.func32, Try.ntmps32
  go_wp2_with (go_at_call 31; refine (nUint _ _ (by omega) (by omega)).mono ?_; rintro e w' ⟨rfl, rfl⟩)
  go_returns
  exact ⟨rfl, rfl⟩
theorem nText (w : World) : Calls Try.prog 35 #[.pointer none, .string ⟨#[120]⟩] w fun e w' => e = .returned (.tuple #[]) ∧ w' = w := by
  go_enter Try.func35, Try.ntmps35
  go_wp2_with (first | (go_at_call 31; refine (nUint _ _ (by decide) (by decide)).mono ?_; rintro e w' ⟨rfl, rfl⟩) | (go_at_call 36; refine (nRaw _ _).mono ?_; rintro e w' ⟨rfl, rfl⟩))
  go_returns
  exact ⟨rfl, rfl⟩
theorem nFloat (w : World) : Calls Try.prog 33 #[.pointer none, .float .f64 0] w fun e w' => e = .returned (.tuple #[]) ∧ w' = w := by
  have h0 := isNan0
  go_enter Try.func33, Try.ntmps33
  go_wp2_with (first | (go_at_call 58; refine (nLowest _ _ _ (by omega) (by omega)).mono ?_; rintro e w' ⟨rfl, rfl⟩) | (go_at_call 40; refine (cNan _ _).mono ?_; rintro e w' ⟨rfl, rfl⟩))
  go_returns
  exact ⟨rfl, rfl⟩
/-- an item of a nil writer: nothing becomes of it -/
theorem nPut (i : Int) (w : World) (h0 : 0 ≤ i) (h1 : i < 9) :
    Calls Try.prog 6 #[.pointer none, .agg #[.int .i64 0, .int .i64 i, .int .i64 9, .int .u64 0, .string ⟨#[120]⟩]] w fun e w' => e = .returned (.int .i64 (if i = 2 then 2 else 0)) ∧ w' = w.alloc (.cells #[.int .i64 0, .int .i64 i, .int .i64 9, .int .u64 0, .string ⟨#[120]⟩] 28) := by
  have hi : i = 0 ∨ i = 1 ∨ i = 2 ∨ i = 3 ∨ i = 4 ∨ i = 5 ∨ i = 6 ∨ i = 7 ∨ i = 8 := by omega
  rcases hi with rfl | rfl | rfl | rfl | rfl | rfl | rfl | rfl | rfl
  all_goals
    go_enter Try.func6, Try.ntmps6
    go_wp2_with (first | (go_at_call 28; refine (nByte _ _).mono ?_; rintro e w' ⟨rfl, rfl⟩) | (go_at_call 29; refine (nSmall _ _).mono ?_; rintro e w' ⟨rfl, rfl⟩) | (go_at_call 30; refine (nFixed _ _ _).mono ?_; rintro e w' ⟨rfl, rfl⟩) | (go_at_call 31; refine (nUint _ _ (by decide) (by decide)).mono ?_; rintro e w' ⟨rfl, rfl⟩) | (go_at_call 32; refine (nInt _).mono ?_; rintro e w' ⟨rfl, rfl⟩) | (go_at_call 33; refine (nFloat _).mono ?_; rintro e w' ⟨rfl, rfl⟩) | (go_at_call 35; refine (nText _).mono ?_; rintro e w' ⟨rfl, rfl⟩) | (go_at_call 36; refine (nRaw _ _).mono ?_; rintro e w' ⟨rfl, rfl⟩))
    go_ret
    exact ⟨rfl, rfl⟩
end Go.Proofs.Ytnjhnpehldclpaa
