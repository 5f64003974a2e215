/- StoreNames: of no store, no batch, no device. -/
import Derived.Test.YtackkafmljjnjaaGreatDoorSm
namespace Go.Proofs.YtackkafmljjnjaaGreatDoor
open Go.RowKit

theorem sRead0 (n : Int) (w : World) : Calls Tryz.prog 9 #[.pointer none, .int .u32 n] w fun e w' => e = .returned (.tuple #[.agg #[.int .u8 0, .int .u32 0, .int .u64 0, .string ⟨#[]⟩], .int .i64 2]) ∧ Below w.heap.size w w' := by
  obtain ⟨N, hN⟩ : ∃ N, N = w.heap.size := ⟨_, rfl⟩
  have HN := hide hN
  rw [← hN]
  clear hN
  go_enter Tryz.func9, Tryz.ntmps9
  go_wp2_with (first
    | (refine wpList_alloc_row (by rfl) 28 (by rfl) (some 4) (by rfl) N (by exact (unhide HN).symm) _ zeroPage ?_; intro W1 HX1 HB1 HS1; simp only [Act.put, List.setIfInBounds_toArray, List.set_cons_zero, List.set_cons_succ])
    | (refine wpList_store_hid (by rfl) 28 (.tmp 4) (.tmp 12) (by rfl) N #[.int .u8 0, .int .u32 0, .int .u64 0, .string ⟨#[]⟩] (by rfl) (by rfl) 28 _ (unhide HX1) pageInfo rfl zp_one ?_; intro W4 HX4 HE4; simp only [Act.put]))
  refine bodyPost_ret (results_cell_tmp rfl _ _ N 28 #[.int .u8 0, .int .u32 0, .int .u64 0, .string ⟨#[]⟩] (0, 0) _ rfl (unhide HX4) Tryz.underlying28 rfl pageInfo) rfl ?_
  refine ⟨rfl, ?_⟩
  rw [unhide HE4]
  exact belowRow (unhide HB1) (Nat.le_refl _) _
theorem sPages0 (w : World) : Calls Tryz.prog 14 #[.pointer none] w fun e w' => e = .returned (.int .i64 0) ∧ w' = w := by
  go_enter Tryz.func14, Tryz.ntmps14
  go_wp2
  go_ret
  exact ⟨rfl, rfl⟩
theorem sFree0 (w : World) : Calls Tryz.prog 15 #[.pointer none] w fun e w' => e = .returned (.int .i64 0) ∧ w' = w := by
  go_enter Tryz.func15, Tryz.ntmps15
  go_wp2
  go_ret
  exact ⟨rfl, rfl⟩
theorem sSerial0 (w : World) : Calls Tryz.prog 16 #[.pointer none] w fun e w' => e = .returned (.int .u64 0) ∧ w' = w := by
  go_enter Tryz.func16, Tryz.ntmps16
  go_wp2
  go_ret
  exact ⟨rfl, rfl⟩
theorem sRoot0 (i : Int) (w : World) : Calls Tryz.prog 17 #[.pointer none, .int .i64 i] w fun e w' => e = .returned (.int .u32 0) ∧ w' = w := by
  go_enter Tryz.func17, Tryz.ntmps17
  go_wp2
  go_ret
  exact ⟨rfl, rfl⟩
theorem sBegin0 (w : World) : Calls Tryz.prog 18 #[.pointer none] w fun e w' => e = .returned (.pointer none) ∧ w' = w := by
  go_enter Tryz.func18, Tryz.ntmps18
  go_wp2
  go_ret
  exact ⟨rfl, rfl⟩
theorem btRefused0 (w : World) : Calls Tryz.prog 46 #[.pointer none] w fun e w' => e = .returned (.int .i64 2) ∧ w' = w := by
  go_enter Tryz.func46, Tryz.ntmps46
  go_wp2
  go_ret
  exact ⟨rfl, rfl⟩
theorem btRefusedAt0 (n : Int) (w : World) : Calls Tryz.prog 45 #[.pointer none, .int .u32 n] w fun e w' => e = .returned (.int .i64 2) ∧ w' = w := by
  go_enter Tryz.func45, Tryz.ntmps45
  go_wp2_with (go_at_call 46; refine (btRefused0 _).mono ?_; rintro e w1 ⟨rfl, rfl⟩)
  go_ret
  exact ⟨rfl, rfl⟩
theorem btRead0 (n : Int) (w : World) : Calls Tryz.prog 10 #[.pointer none, .int .u32 n] w fun e w' => e = .returned (.tuple #[.agg #[.int .u8 0, .int .u32 0, .int .u64 0, .string ⟨#[]⟩], .int .i64 2]) ∧ Below w.heap.size w w' := by
  obtain ⟨N, hN⟩ : ∃ N, N = w.heap.size := ⟨_, rfl⟩
  have HN := hide hN
  rw [← hN]
  clear hN
  go_enter Tryz.func10, Tryz.ntmps10
  go_wp2_with (first
    | (refine wpList_alloc_row (by rfl) 28 (by rfl) (some 4) (by rfl) N (by exact (unhide HN).symm) _ zeroPage ?_; intro W1 HX1 HB1 HS1; simp only [Act.put, List.setIfInBounds_toArray, List.set_cons_zero, List.set_cons_succ])
    | (go_at_call 45; refine (btRefusedAt0 _ _).mono ?_; rintro e w1 ⟨rfl, rfl⟩)
    | (refine wpList_store_hid (by rfl) 28 (.tmp 4) (.tmp 14) (by rfl) N #[.int .u8 0, .int .u32 0, .int .u64 0, .string ⟨#[]⟩] (by rfl) (by rfl) 28 _ (unhide HX1) pageInfo rfl zp_one ?_; intro W4 HX4 HE4; simp only [Act.put]))
  refine bodyPost_ret (results_cell_tmp rfl _ _ N 28 #[.int .u8 0, .int .u32 0, .int .u64 0, .string ⟨#[]⟩] (0, 0) _ rfl (unhide HX4) Tryz.underlying28 rfl pageInfo) rfl ?_
  refine ⟨rfl, ?_⟩
  rw [unhide HE4]
  exact belowRow (unhide HB1) (Nat.le_refl _) _
theorem btWrite0 (n k : Int) (b : ByteArray) (w : World) : Calls Tryz.prog 21 #[.pointer none, .int .u32 n, .int .u8 k, .string b] w fun e w' => e = .returned (.int .i64 2) ∧ w' = w := by
  go_enter Tryz.func21, Tryz.ntmps21
  go_wp2_with (go_at_call 45; refine (btRefusedAt0 _ _).mono ?_; rintro e w1 ⟨rfl, rfl⟩)
  go_ret
  exact ⟨rfl, rfl⟩
theorem btAlloc0 (k : Int) (b : ByteArray) (w : World) : Calls Tryz.prog 11 #[.pointer none, .int .u8 k, .string b] w fun e w' => e = .returned (.tuple #[.int .u32 0, .int .i64 2]) ∧ w' = w := by
  go_enter Tryz.func11, Tryz.ntmps11
  go_wp2_with (go_at_call 46; refine (btRefused0 _).mono ?_; rintro e w1 ⟨rfl, rfl⟩)
  go_ret2
  exact ⟨rfl, rfl⟩
theorem btRelease0 (n : Int) (w : World) : Calls Tryz.prog 22 #[.pointer none, .int .u32 n] w fun e w' => e = .returned (.int .i64 2) ∧ w' = w := by
  go_enter Tryz.func22, Tryz.ntmps22
  go_wp2_with (go_at_call 45; refine (btRefusedAt0 _ _).mono ?_; rintro e w1 ⟨rfl, rfl⟩)
  go_ret
  exact ⟨rfl, rfl⟩
theorem btRoot0 (i : Int) (w : World) : Calls Tryz.prog 19 #[.pointer none, .int .i64 i] w fun e w' => e = .returned (.int .u32 0) ∧ w' = w := by
  go_enter Tryz.func19, Tryz.ntmps19
  go_wp2_with (go_at_call 46; refine (btRefused0 _).mono ?_; rintro e w1 ⟨rfl, rfl⟩)
  go_ret
  exact ⟨rfl, rfl⟩
theorem btSetRoot0 (i n : Int) (w : World) : Calls Tryz.prog 23 #[.pointer none, .int .i64 i, .int .u32 n] w fun e w' => e = .returned (.int .i64 2) ∧ w' = w := by
  go_enter Tryz.func23, Tryz.ntmps23
  go_wp2_with (go_at_call 46; refine (btRefused0 _).mono ?_; rintro e w1 ⟨rfl, rfl⟩)
  go_ret
  exact ⟨rfl, rfl⟩
theorem btSize0 (w : World) : Calls Tryz.prog 20 #[.pointer none] w fun e w' => e = .returned (.int .i64 0) ∧ w' = w := by
  go_enter Tryz.func20, Tryz.ntmps20
  go_wp2_with (go_at_call 46; refine (btRefused0 _).mono ?_; rintro e w1 ⟨rfl, rfl⟩)
  go_ret
  exact ⟨rfl, rfl⟩
theorem btCommit0 (w : World) : Calls Tryz.prog 24 #[.pointer none] w fun e w' => e = .returned (.int .i64 2) ∧ w' = w := by
  go_enter Tryz.func24, Tryz.ntmps24
  go_wp2_with (go_at_call 46; refine (btRefused0 _).mono ?_; rintro e w1 ⟨rfl, rfl⟩)
  go_ret
  exact ⟨rfl, rfl⟩
theorem btDrop0 (w : World) : Calls Tryz.prog 13 #[.pointer none] w fun e w' => e = .returned (.tuple #[]) ∧ w' = w := by
  go_enter Tryz.func13, Tryz.ntmps13
  go_wp2_with (go_at_call 46; refine (btRefused0 _).mono ?_; rintro e w1 ⟨rfl, rfl⟩)
  go_returns
  exact ⟨rfl, rfl⟩
end Go.Proofs.YtackkafmljjnjaaGreatDoor
