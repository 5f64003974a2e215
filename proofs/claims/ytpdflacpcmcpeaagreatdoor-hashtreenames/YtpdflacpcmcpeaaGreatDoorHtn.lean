/- Sums beside objects: of no tree and no store; the walk of HashtreeNames. -/
import Derived.Test.YtpdflacpcmcpeaaGreatDoorMm
import Derived.WalkKit
import Derived.OpenShut
import Derived.Great.Walk
import Derived.Below
namespace Go.Proofs.YtpdflacpcmcpeaaGreatDoor.H
open Go.RowKit
set_option maxHeartbeats 1000000 in
theorem kOpenNil (u : World) : Calls Tryz.prog 4 #[.pointer none, .int .i64 4] u fun e u' => e = .returned (.tuple #[.pointer none, .int .i64 2]) ∧ u' = u := by
  go_enter Tryz.func4, Tryz.ntmps4
  go_wp2
  first | go_ret2 | go_returns
  exact ⟨rfl, rfl⟩
set_option maxHeartbeats 1000000 in
theorem kSnapNil (u : World) : Calls Tryz.prog 5 #[.pointer none] u fun e u' => e = .returned (.tuple #[.pointer none, .int .i64 2]) ∧ u' = u := by
  go_enter Tryz.func5, Tryz.ntmps5
  go_wp2
  first | go_ret2 | go_returns
  exact ⟨rfl, rfl⟩
set_option maxHeartbeats 1000000 in
theorem kEntNil (u : World) : Calls Tryz.prog 6 #[.pointer none, .int .i64 0] u fun e u' => e = .returned (.tuple #[.slice none 0 0, .int .i64 2]) ∧ u' = u := by
  go_enter Tryz.func6, Tryz.ntmps6
  go_wp2
  first | go_ret2 | go_returns
  exact ⟨rfl, rfl⟩
set_option maxHeartbeats 1000000 in
theorem kSumNil (u : World) : Calls Tryz.prog 7 #[.pointer none, .int .u16 0] u fun e u' => e = .returned (.tuple #[.string ⟨#[]⟩, .int .i64 2]) ∧ u' = u := by
  go_enter Tryz.func7, Tryz.ntmps7
  go_wp2
  first | go_ret2 | go_returns
  exact ⟨rfl, rfl⟩
set_option maxHeartbeats 1000000 in
theorem kNextNil (u : World) : Calls Tryz.prog 8 #[.pointer none, .int .i64 0] u fun e u' => e = .returned (.tuple #[.int .i64 0, .bool false]) ∧ u' = u := by
  go_enter Tryz.func8, Tryz.ntmps8
  go_wp2
  first | go_ret2 | go_returns
  exact ⟨rfl, rfl⟩
set_option maxHeartbeats 1000000 in
theorem kWidthNil (u : World) : Calls Tryz.prog 9 #[.pointer none] u fun e u' => e = .returned (.int .i64 0) ∧ u' = u := by
  go_enter Tryz.func9, Tryz.ntmps9
  go_wp2
  first | go_ret | go_returns
  exact ⟨rfl, rfl⟩
set_option maxHeartbeats 1000000 in
theorem kValidNil (u : World) : Calls Tryz.prog 10 #[.pointer none] u fun e u' => e = .returned (.bool false) ∧ u' = u := by
  go_enter Tryz.func10, Tryz.ntmps10
  go_wp2
  first | go_ret | go_returns
  exact ⟨rfl, rfl⟩
set_option maxHeartbeats 1000000 in
theorem kClosedNil (u : World) : Calls Tryz.prog 11 #[.pointer none] u fun e u' => e = .returned (.bool false) ∧ u' = u := by
  go_enter Tryz.func11, Tryz.ntmps11
  go_wp2
  first | go_ret | go_returns
  exact ⟨rfl, rfl⟩
set_option maxHeartbeats 1000000 in
theorem kDirtyNil (u : World) : Calls Tryz.prog 12 #[.pointer none] u fun e u' => e = .returned (.int .i64 0) ∧ u' = u := by
  go_enter Tryz.func12, Tryz.ntmps12
  go_wp2
  first | go_ret | go_returns
  exact ⟨rfl, rfl⟩
set_option maxHeartbeats 1000000 in
theorem kBuildNil (u : World) : Calls Tryz.prog 13 #[.pointer none] u fun e u' => e = .returned (.bool false) ∧ u' = u := by
  go_enter Tryz.func13, Tryz.ntmps13
  go_wp2
  first | go_ret | go_returns
  exact ⟨rfl, rfl⟩
set_option maxHeartbeats 1000000 in
theorem kTouchNil (u : World) : Calls Tryz.prog 14 #[.pointer none, .pointer none, .int .i64 0] u fun e u' => e = .returned (.int .i64 2) ∧ u' = u := by
  go_enter Tryz.func14, Tryz.ntmps14
  go_wp2
  first | go_ret | go_returns
  exact ⟨rfl, rfl⟩
set_option maxHeartbeats 1000000 in
theorem kTouchedNil (u : World) : Calls Tryz.prog 15 #[.pointer none, .int .i64 0] u fun e u' => e = .returned (.int .i64 2) ∧ u' = u := by
  go_enter Tryz.func15, Tryz.ntmps15
  go_wp2
  first | go_ret | go_returns
  exact ⟨rfl, rfl⟩
set_option maxHeartbeats 1000000 in
theorem kRefNil (u : World) : Calls Tryz.prog 16 #[.pointer none] u fun e u' => e = .returned (.int .i64 2) ∧ u' = u := by
  go_enter Tryz.func16, Tryz.ntmps16
  go_wp2
  first | go_ret | go_returns
  exact ⟨rfl, rfl⟩
set_option maxHeartbeats 1000000 in
theorem kBegNil (u : World) : Calls Tryz.prog 17 #[.pointer none] u fun e u' => e = .returned (.int .i64 2) ∧ u' = u := by
  go_enter Tryz.func17, Tryz.ntmps17
  go_wp2
  first | go_ret | go_returns
  exact ⟨rfl, rfl⟩
set_option maxHeartbeats 1000000 in
theorem kRehNil (u : World) : Calls Tryz.prog 18 #[.pointer none, .int .i64 0] u fun e u' => e = .returned (.int .i64 2) ∧ u' = u := by
  go_enter Tryz.func18, Tryz.ntmps18
  go_wp2
  first | go_ret | go_returns
  exact ⟨rfl, rfl⟩
set_option maxHeartbeats 1000000 in
theorem kFinNil (u : World) : Calls Tryz.prog 19 #[.pointer none] u fun e u' => e = .returned (.int .i64 2) ∧ u' = u := by
  go_enter Tryz.func19, Tryz.ntmps19
  go_wp2
  first | go_ret | go_returns
  exact ⟨rfl, rfl⟩
set_option maxRecDepth 100000 in
set_option maxHeartbeats 4000000 in
theorem names17_walk (u : World) : Calls Tryz.prog 3 #[] u fun e u' => e = .returned (.bool true) ∧ Below u.heap.size u u' := by
  have HOpenNil := hide (kOpenNil u)
  have HSnapNil := hide (kSnapNil u)
  have HEntNil := hide (kEntNil u)
  have HSumNil := hide (kSumNil u)
  have HNextNil := hide (kNextNil u)
  have HWidthNil := hide (kWidthNil u)
  have HValidNil := hide (kValidNil u)
  have HClosedNil := hide (kClosedNil u)
  have HDirtyNil := hide (kDirtyNil u)
  have HBuildNil := hide (kBuildNil u)
  have HTouchNil := hide (kTouchNil u)
  have HTouchedNil := hide (kTouchedNil u)
  have HRefNil := hide (kRefNil u)
  have HBegNil := hide (kBegNil u)
  have HRehNil := hide (kRehNil u)
  have HFinNil := hide (kFinNil u)
  go_enter Tryz.func3, Tryz.ntmps3
  go_wp2_with (first
    | (go_at_call 4; refine (unhide HOpenNil).mono ?_; rintro e wq ⟨rfl, hwq⟩; obtain rfl := hwq.symm)
    | (go_at_call 5; refine (unhide HSnapNil).mono ?_; rintro e wq ⟨rfl, hwq⟩; obtain rfl := hwq.symm)
    | (go_at_call 6; refine (unhide HEntNil).mono ?_; rintro e wq ⟨rfl, hwq⟩; obtain rfl := hwq.symm)
    | (go_at_call 7; refine (unhide HSumNil).mono ?_; rintro e wq ⟨rfl, hwq⟩; obtain rfl := hwq.symm)
    | (go_at_call 8; refine (unhide HNextNil).mono ?_; rintro e wq ⟨rfl, hwq⟩; obtain rfl := hwq.symm)
    | (go_at_call 9; refine (unhide HWidthNil).mono ?_; rintro e wq ⟨rfl, hwq⟩; obtain rfl := hwq.symm)
    | (go_at_call 10; refine (unhide HValidNil).mono ?_; rintro e wq ⟨rfl, hwq⟩; obtain rfl := hwq.symm)
    | (go_at_call 11; refine (unhide HClosedNil).mono ?_; rintro e wq ⟨rfl, hwq⟩; obtain rfl := hwq.symm)
    | (go_at_call 12; refine (unhide HDirtyNil).mono ?_; rintro e wq ⟨rfl, hwq⟩; obtain rfl := hwq.symm)
    | (go_at_call 13; refine (unhide HBuildNil).mono ?_; rintro e wq ⟨rfl, hwq⟩; obtain rfl := hwq.symm)
    | (go_at_call 14; refine (unhide HTouchNil).mono ?_; rintro e wq ⟨rfl, hwq⟩; obtain rfl := hwq.symm)
    | (go_at_call 15; refine (unhide HTouchedNil).mono ?_; rintro e wq ⟨rfl, hwq⟩; obtain rfl := hwq.symm)
    | (go_at_call 16; refine (unhide HRefNil).mono ?_; rintro e wq ⟨rfl, hwq⟩; obtain rfl := hwq.symm)
    | (go_at_call 17; refine (unhide HBegNil).mono ?_; rintro e wq ⟨rfl, hwq⟩; obtain rfl := hwq.symm)
    | (go_at_call 18; refine (unhide HRehNil).mono ?_; rintro e wq ⟨rfl, hwq⟩; obtain rfl := hwq.symm)
    | (go_at_call 19; refine (unhide HFinNil).mono ?_; rintro e wq ⟨rfl, hwq⟩; obtain rfl := hwq.symm)
    | fail)
  go_ret
  exact ⟨by first | rfl | simp, Below.refl _ _⟩
end Go.Proofs.YtpdflacpcmcpeaaGreatDoor.H
