/- Of no reader: what each call of a nil one answers; and the first statement's own call. -/
import Derived.Test.YtnjhnpehldclpaaNil
namespace Go.Proofs.Ytnjhnpehldclpaa
open Go.RowKit

theorem nFail (x : Int) (w : World) : Calls Try.prog 9 #[.pointer none, .int .i64 x] w fun e w' => e = .returned (.tuple #[]) ∧ w' = w := by
  go_enter Try.func9, Try.ntmps9
  go_wp2_with (go_at_call 37; refine (nStopped _).mono ?_; rintro e w' ⟨rfl, rfl⟩)
  go_returns
  exact ⟨rfl, rfl⟩
theorem nrRaw (x : Int) (w : World) : Calls Try.prog 18 #[.pointer none, .int .i64 x] w fun e w' => e = .returned (.string ⟨#[]⟩) ∧ w' = w := by
  go_enter Try.func18, Try.ntmps18
  go_wp2_with (go_at_call 37; refine (nStopped _).mono ?_; rintro e w' ⟨rfl, rfl⟩)
  go_ret
  exact ⟨rfl, rfl⟩
theorem nAt (w : World) : Calls Try.prog 19 #[.pointer none] w fun e w' => e = .returned (.int .i64 0) ∧ w' = w := by
  go_enter Try.func19, Try.ntmps19
  go_wp2
  go_ret
  exact ⟨rfl, rfl⟩
theorem nLeft (w : World) : Calls Try.prog 20 #[.pointer none] w fun e w' => e = .returned (.int .i64 0) ∧ w' = w := by
  go_enter Try.func20, Try.ntmps20
  go_wp2
  go_ret
  exact ⟨rfl, rfl⟩
theorem nEnd (w : World) : Calls Try.prog 22 #[.pointer none] w fun e w' => e = .returned (.int .i64 2) ∧ w' = w := by
  go_enter Try.func22, Try.ntmps22
  go_wp2_with (first | (go_at_call 37; refine (nStopped _).mono ?_; rintro e w' ⟨rfl, rfl⟩) | (go_at_call 21; refine (nErr _).mono ?_; rintro e w' ⟨rfl, rfl⟩))
  go_ret
  exact ⟨rfl, rfl⟩
theorem nrFixed (n : Int) (w : World) : Calls Try.prog 12 #[.pointer none, .int .i64 n] w fun e w' => e = .returned (.int .u64 0) ∧ w' = w := by
  by_cases h1 : n < 1
  · go_enter Try.func12, Try.ntmps12
    go_wp2_with (go_at_call 9; refine (nFail _ _).mono ?_; rintro e w' ⟨rfl, rfl⟩)
    go_ret
    exact ⟨rfl, rfl⟩
  · by_cases h2 : 8 < n
    · go_enter Try.func12, Try.ntmps12
      go_wp2_with (go_at_call 9; refine (nFail _ _).mono ?_; rintro e w' ⟨rfl, rfl⟩)
      go_ret
      exact ⟨rfl, rfl⟩
    · go_enter Try.func12, Try.ntmps12
      go_wp2_with (go_at_call 18; refine (nrRaw _ _).mono ?_; rintro e w' ⟨rfl, rfl⟩)
      go_rounds 1
      go_ret
      exact ⟨rfl, rfl⟩
theorem nrByte (w : World) : Calls Try.prog 10 #[.pointer none] w fun e w' => e = .returned (.int .u8 0) ∧ w' = w := by
  go_enter Try.func10, Try.ntmps10
  go_wp2_with (go_at_call 12; refine (nrFixed _ _).mono ?_; rintro e w' ⟨rfl, rfl⟩)
  go_ret
  exact ⟨rfl, rfl⟩
theorem nrSmall (w : World) : Calls Try.prog 11 #[.pointer none] w fun e w' => e = .returned (.int .i16 0) ∧ w' = w := by
  go_enter Try.func11, Try.ntmps11
  go_wp2_with (go_at_call 12; refine (nrFixed _ _).mono ?_; rintro e w' ⟨rfl, rfl⟩)
  go_ret
  exact ⟨rfl, rfl⟩
theorem nrUint (m : Int) (w : World) : Calls Try.prog 13 #[.pointer none, .int .u64 m] w fun e w' => e = .returned (.int .u64 0) ∧ w' = w := by
  go_enter Try.func13, Try.ntmps13
  go_wp2_with (go_at_call 37; refine (nStopped _).mono ?_; rintro e w' ⟨rfl, rfl⟩)
  go_ret
  exact ⟨rfl, rfl⟩
theorem nrInt (w : World) : Calls Try.prog 14 #[.pointer none] w fun e w' => e = .returned (.int .i64 0) ∧ w' = w := by
  go_enter Try.func14, Try.ntmps14
  go_wp2_with (go_at_call 13; refine (nrUint _ _).mono ?_; rintro e w' ⟨rfl, rfl⟩)
  go_ret
  exact ⟨rfl, rfl⟩
theorem nrFloat (w : World) : Calls Try.prog 16 #[.pointer none] w fun e w' => e = .returned (.float .f64 0) ∧ w' = w := by
  have h0 := isNan0
  go_enter Try.func16, Try.ntmps16
  go_wp2_with (first | (go_at_call 12; refine (nrFixed _ _).mono ?_; rintro e w' ⟨rfl, rfl⟩) | (go_at_call 19; refine (nAt _).mono ?_; rintro e w' ⟨rfl, rfl⟩) | (go_at_call 40; refine (cNan _ _).mono ?_; rintro e w' ⟨rfl, rfl⟩))
  go_ret
  exact ⟨rfl, rfl⟩
theorem nrText (w : World) : Calls Try.prog 17 #[.pointer none, .int .i64 (-1)] w fun e w' => e = .returned (.string ⟨#[]⟩) ∧ w' = w := by
  go_enter Try.func17, Try.ntmps17
  go_wp2_with (go_at_call 9; refine (nFail _ _).mono ?_; rintro e w' ⟨rfl, rfl⟩)
  go_ret
  exact ⟨rfl, rfl⟩
theorem cSame0 (w : World) : Calls Try.prog 15 #[.float .f64 0, .float .f64 0] w fun e w' => e = .returned (.bool true) ∧ w' = w := by
  have h : FloatKind.f64.format.order 0 0 = some .eq := by kernel_rfl
  go_enter Try.func15, Try.ntmps15
  go_wp2
  go_ret
  exact ⟨rfl, rfl⟩
theorem nPutA (i : Int) (w : World) (h0 : 0 ≤ i) (h1 : i < 9) (h2 : (i == 2) = false) :
    Calls Try.prog 6 #[.pointer none, .agg #[.int .i64 0, .int .i64 i, .int .i64 9, .int .u64 0, .string ⟨#[120]⟩]] w fun e w' => e = .returned (.int .i64 0) ∧ Grown w w' := by
  refine (nPut i w h0 h1).mono ?_
  rintro e w' ⟨rfl, rfl⟩
  rw [if_neg (by simpa using h2)]
  exact ⟨rfl, (Grown.refl _).alloc _ _⟩
theorem nPutB (w : World) :
    Calls Try.prog 6 #[.pointer none, .agg #[.int .i64 0, .int .i64 2, .int .i64 9, .int .u64 0, .string ⟨#[120]⟩]] w fun e w' => e = .returned (.int .i64 2) ∧ Grown w w' := by
  refine (nPut 2 w (by decide) (by decide)).mono ?_
  rintro e w' ⟨rfl, rfl⟩
  exact ⟨rfl, (Grown.refl _).alloc _ _⟩
theorem Grown.trans' {a b c : World} (h : Grown a b) (k : Grown b c) : Grown a c :=
  ⟨World.keptBut_trans h.1 k.1, fun x => (k.2.1 x).trans (h.2.1 x), Nat.le_trans h.2.2 k.2.2⟩

set_option maxHeartbeats 1000000 in
theorem names_walk (w : World) : Calls Try.prog 3 #[] w fun e w' => e = .returned (.bool true) ∧ Grown w w' := by
  go_enter Try.func3, Try.ntmps3
  go_wp2
  go_loopw [3, 4] (fun i _ wr => ∃ k : Int, 0 ≤ k ∧ k ≤ 9 ∧ i = .int .i64 k ∧ Grown w wr) (fun i _ _ => (9 - intOf i).toNat)
  case atStart => exact ⟨0, by omega, by omega, rfl, Grown.refl _⟩
  case round =>
    obtain ⟨k, hk0, hk1, rfl, hg⟩ := hrel
    by_cases hlt : k < 9
    · by_cases h2 : k = 2
      · subst h2
        go_wp2_with (first | (go_at_call 6; refine (nPutB _).mono ?_; rintro e w' ⟨rfl, hg'⟩) | (go_at_call 7; refine (nLen _).mono ?_; rintro e w' ⟨rfl, rfl⟩) | (go_at_call 8; refine (nTold _).mono ?_; rintro e w' ⟨rfl, rfl⟩))
        go_roundw
        case rel => exact ⟨3, by omega, by omega, rfl, Grown.trans' hg (by assumption)⟩
        case measure => simp [intOf]
      · have h2b : (k == 2) = false := by simpa using h2
        go_wp2_with (first | (go_at_call 6; refine (nPutA _ _ hk0 hlt h2b).mono ?_; rintro e w' ⟨rfl, hg'⟩) | (go_at_call 7; refine (nLen _).mono ?_; rintro e w' ⟨rfl, rfl⟩) | (go_at_call 8; refine (nTold _).mono ?_; rintro e w' ⟨rfl, rfl⟩))
        go_roundw
        case rel => exact ⟨k + 1, by omega, by omega, rfl, Grown.trans' hg (by assumption)⟩
        case measure => simp [intOf]; omega
    · go_wp2_with (first | (go_at_call 9; refine (nFail _ _).mono ?_; rintro e w' ⟨rfl, rfl⟩) | (go_at_call 10; refine (nrByte _).mono ?_; rintro e w' ⟨rfl, rfl⟩) | (go_at_call 11; refine (nrSmall _).mono ?_; rintro e w' ⟨rfl, rfl⟩) | (go_at_call 12; refine (nrFixed _ _).mono ?_; rintro e w' ⟨rfl, rfl⟩) | (go_at_call 13; refine (nrUint _ _).mono ?_; rintro e w' ⟨rfl, rfl⟩) | (go_at_call 14; refine (nrInt _).mono ?_; rintro e w' ⟨rfl, rfl⟩) | (go_at_call 16; refine (nrFloat _).mono ?_; rintro e w' ⟨rfl, rfl⟩) | (go_at_call 15; refine (cSame0 _).mono ?_; rintro e w' ⟨rfl, rfl⟩) | (go_at_call 17; refine (nrText _).mono ?_; rintro e w' ⟨rfl, rfl⟩) | (go_at_call 18; refine (nrRaw _ _).mono ?_; rintro e w' ⟨rfl, rfl⟩) | (go_at_call 19; refine (nAt _).mono ?_; rintro e w' ⟨rfl, rfl⟩) | (go_at_call 20; refine (nLeft _).mono ?_; rintro e w' ⟨rfl, rfl⟩) | (go_at_call 21; refine (nErr _).mono ?_; rintro e w' ⟨rfl, rfl⟩) | (go_at_call 22; refine (nEnd _).mono ?_; rintro e w' ⟨rfl, rfl⟩))
      go_ret
      exact ⟨rfl, hg⟩
end Go.Proofs.Ytnjhnpehldclpaa
