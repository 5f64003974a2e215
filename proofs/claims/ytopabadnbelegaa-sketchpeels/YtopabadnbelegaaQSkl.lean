/- Sketches: of no sketch; SketchNames. -/
import Derived.Test.YtopabadnbelegaaQSkk
namespace Go.Proofs.Ytopabadnbelegaa.K
open Go.RowKit Go.Lib
set_option maxHeartbeats 1000000 in
theorem kLayNil (x c : Int) (u : World) : Calls Try.prog 24 #[.pointer none, .int .u64 x, .int .i16 c] u fun e u' => e = .returned (.tuple #[]) ∧ u' = u := by
  go_enter Try.func24, Try.ntmps24
  go_wp2
  go_returns
  exact ⟨rfl, rfl⟩
set_option maxHeartbeats 1000000 in
theorem kAddNil (x : Int) (u : World) : Calls Try.prog 8 #[.pointer none, .int .u64 x] u fun e u' => e = .returned (.tuple #[]) ∧ u' = u := by
  have HL := hide (kLayNil x 1 u)
  go_enter Try.func8, Try.ntmps8
  go_wp2_with (first
    | (go_at_call 24; refine (unhide HL).mono ?_; rintro e wq ⟨rfl, hwq⟩; obtain rfl := hwq.symm)
    | fail)
  go_returns
  exact ⟨rfl, rfl⟩
set_option maxHeartbeats 1000000 in
theorem kTakeNil (x : Int) (u : World) : Calls Try.prog 9 #[.pointer none, .int .u64 x] u fun e u' => e = .returned (.tuple #[]) ∧ u' = u := by
  have HL := hide (kLayNil x (-1) u)
  go_enter Try.func9, Try.ntmps9
  go_wp2_with (first
    | (go_at_call 24; refine (unhide HL).mono ?_; rintro e wq ⟨rfl, hwq⟩; obtain rfl := hwq.symm)
    | fail)
  go_returns
  exact ⟨rfl, rfl⟩
set_option maxHeartbeats 1000000 in
theorem kMinusNil (p : Option Addr) (u : World) : Calls Try.prog 10 #[.pointer p, .pointer none] u fun e u' => e = .returned (.tuple #[.pointer none, .int .i64 2]) ∧ u' = u := by
  cases p with
  | none =>
    go_enter Try.func10, Try.ntmps10
    go_wp2
    go_ret2
    exact ⟨rfl, rfl⟩
  | some ad =>
    go_enter Try.func10, Try.ntmps10
    go_wp2
    go_ret2
    exact ⟨rfl, rfl⟩
set_option maxHeartbeats 1000000 in
theorem kPeelNil (u : World) : Calls Try.prog 11 #[.pointer none] u fun e u' => e = .returned (.tuple #[.slice none 0 0, .slice none 0 0, .bool false]) ∧ u' = u := by
  go_enter Try.func11, Try.ntmps11
  go_wp2
  go_ret3
  exact ⟨rfl, rfl⟩
set_option maxHeartbeats 1000000 in
theorem kCellsNil (u : World) : Calls Try.prog 13 #[.pointer none] u fun e u' => e = .returned (.slice none 0 0) ∧ u' = u := by
  go_enter Try.func13, Try.ntmps13
  go_wp2
  go_ret
  exact ⟨rfl, rfl⟩
set_option maxRecDepth 100000 in
set_option maxHeartbeats 4000000 in
theorem names16_walk (u : World) : Calls Try.prog 3 #[] u fun e u' => e = .returned (.bool true) ∧ Below u.heap.size u u' := by
  have HA := hide (kAddNil 7 u)
  have HT := hide (kTakeNil 7 u)
  have HM := hide (fun p w => kMinusNil p w)
  have HP := hide (kPeelNil u)
  have HN := hide (kNew 3 (by decide) (by decide) u)
  go_enter Try.func3, Try.ntmps3
  go_wp2_with (first
    | (go_at_call 8; refine (unhide HA).mono ?_; rintro e wq ⟨rfl, hwq⟩; obtain rfl := hwq.symm; clear HA)
    | (go_at_call 9; refine (unhide HT).mono ?_; rintro e wq ⟨rfl, hwq⟩; obtain rfl := hwq.symm; clear HT)
    | (go_at_call 10; refine (unhide HM _ _).mono ?_; rintro e wq ⟨rfl, hwq⟩; obtain rfl := hwq.symm)
    | (go_at_call 11; refine (unhide HP).mono ?_; rintro e wq ⟨rfl, hwq⟩; obtain rfl := hwq.symm; clear HP)
    | (go_at_call 12; refine (unhide HN).mono ?_; rintro e W1 ⟨a, g, rfl, hs, hb, h1, h2⟩; have HB := hide hb; have HC := hide (kCellsNil W1); clear hs hb h1 h2 HN)
    | (go_at_call 13; refine (unhide HC).mono ?_; rintro e wq ⟨rfl, hwq⟩; obtain rfl := hwq.symm; clear HC)
    | fail)
  go_ret
  exact ⟨rfl, unhide HB⟩
end Go.Proofs.Ytopabadnbelegaa.K
