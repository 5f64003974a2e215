/- StoreNames: Open of no device; the walk. -/
import Derived.Test.YtackkafmljjnjaaGreatDoorSn
namespace Go.Proofs.YtackkafmljjnjaaGreatDoor
open Go.RowKit

theorem zeroGround : ((Tryz.prog.info? 87).bind (·.zero)).map (·.cells) = some #[.nilIface, .int .i64 0, .int .i64 0] := by kernel_rfl
theorem groundInfo : (Tryz.prog.info? 87).map (·.size) = some 3 := by kernel_rfl
theorem ground_one : (#[.nilIface, .int .i64 0, .int .i64 0] : Array Value).all (·.oneCell') = true := by
  rw [Array.all_eq_true']
  intro v hv
  simp only [List.mem_toArray, List.mem_cons, List.not_mem_nil, or_false] at hv
  rcases hv with rfl | rfl | rfl <;> rfl
theorem kPages0 (w : World) : Calls Tryz.prog 253 #[.pointer none] w fun e w' => e = .returned (.int .i64 0) ∧ w' = w := by
  go_enter Tryz.func253, Tryz.ntmps253
  go_wp2
  go_ret
  exact ⟨rfl, rfl⟩
theorem surveyNil (x : Int) (w : World) : Calls Tryz.prog 50 #[.nilIface, .int .i64 x] w fun e w' => e = .returned (.tuple #[.agg #[.nilIface, .int .i64 0, .int .i64 0], .int .i64 2]) ∧ Below w.heap.size w w' := by
  obtain ⟨N, hN⟩ : ∃ N, N = w.heap.size := ⟨_, rfl⟩
  have HN := hide hN
  rw [← hN]
  clear hN
  go_enter Tryz.func50, Tryz.ntmps50
  go_wp2_with (first
    | (refine wpList_alloc_row (by rfl) 87 (by rfl) (some 4) (by rfl) N (by exact (unhide HN).symm) _ zeroGround ?_; intro W1 HX1 HB1 HS1; simp only [Act.put, List.setIfInBounds_toArray, List.set_cons_zero, List.set_cons_succ])
    | (refine wpList_store_hid (by rfl) 87 (.tmp 4) (.tmp 9) (by rfl) N #[.nilIface, .int .i64 0, .int .i64 0] (by rfl) (by rfl) 87 _ (unhide HX1) groundInfo rfl ground_one ?_; intro W4 HX4 HE4; simp only [Act.put]))
  refine bodyPost_ret (results_cell_tmp rfl _ _ N 87 #[.nilIface, .int .i64 0, .int .i64 0] (0, 0) _ rfl (unhide HX4) Tryz.underlying87 rfl groundInfo) rfl ?_
  refine ⟨rfl, ?_⟩
  rw [unhide HE4]
  exact belowRow (unhide HB1) (Nat.le_refl _) _
set_option maxRecDepth 100000 in
theorem survey0 (w : World) : Calls Tryz.prog 50 #[.iface 24 (.pointer none), .int .i64 4] w fun e w' => e = .returned (.tuple #[.agg #[.nilIface, .int .i64 0, .int .i64 0], .int .i64 1]) ∧ Below w.heap.size w w' := by
  obtain ⟨N, hN⟩ : ∃ N, N = w.heap.size := ⟨_, rfl⟩
  have HN := hide hN
  rw [← hN]
  clear hN
  go_enter Tryz.func50, Tryz.ntmps50
  go_wp2_with (first
    | (refine wpList_alloc_row (by rfl) 87 (by rfl) (some 4) (by rfl) N (by exact (unhide HN).symm) _ zeroGround ?_; intro W1 HX1 HB1 HS1; simp only [Act.put, List.setIfInBounds_toArray, List.set_cons_zero, List.set_cons_succ])
    | (go_at_call 253; refine (kPages0 _).mono ?_; rintro e w1 ⟨rfl, hw1⟩; obtain rfl := hw1.symm; clear hw1)
    | (refine wpList_store_hid (by rfl) 87 (.tmp 4) (.tmp 29) (by rfl) N #[.nilIface, .int .i64 0, .int .i64 0] (by rfl) (by rfl) 87 _ (unhide HX1) groundInfo rfl ground_one ?_; intro W4 HX4 HE4; simp only [Act.put]))
  refine bodyPost_ret (results_cell_tmp rfl _ _ N 87 #[.nilIface, .int .i64 0, .int .i64 0] (0, 0) _ rfl (unhide HX4) Tryz.underlying87 rfl groundInfo) rfl ?_
  refine ⟨rfl, ?_⟩
  rw [unhide HE4]
  exact belowRow (unhide HB1) (Nat.le_refl _) _
theorem openBad (dv : Value) (c : Int) (hc : ¬ c = 0) (w : World) (hs : ∀ u, Calls Tryz.prog 50 #[dv, .int .i64 4] u fun e w' => e = .returned (.tuple #[.agg #[.nilIface, .int .i64 0, .int .i64 0], .int .i64 c]) ∧ Below u.heap.size u w') : Calls Tryz.prog 12 #[dv, .int .i64 4] w fun e w' => e = .returned (.tuple #[.pointer none, .int .i64 c]) ∧ Below w.heap.size w w' := by
  have HS := hide (hs w)
  clear hs
  go_enter Tryz.func12, Tryz.ntmps12
  go_wp2_with fail
  refine (unhide HS).mono ?_
  rintro e w1 ⟨rfl, hb⟩
  have HB := hide hb
  clear hb HS
  obtain ⟨N, hN⟩ : ∃ N, N = w1.heap.size := ⟨_, rfl⟩
  have HN := hide hN
  clear hN
  go_wp2_with (first
    | (refine wpList_alloc_row (by rfl) 87 (by rfl) (some 6) (by rfl) N (by exact (unhide HN).symm) _ zeroGround ?_; intro W1 HX1 HB1 HS1; simp only [Act.put, List.setIfInBounds_toArray, List.set_cons_zero, List.set_cons_succ])
    | (refine wpList_store_hid (by rfl) 87 (.tmp 6) (.tmp 17) (by rfl) N #[.nilIface, .int .i64 0, .int .i64 0] (by rfl) (by rfl) 87 _ (unhide HX1) groundInfo rfl ground_one ?_; intro W4 HX4 HE4; simp only [Act.put]))
  go_ret2
  refine ⟨rfl, ?_⟩
  rw [unhide HE4]
  have h1 := unhide HB1
  rw [unhide HN] at h1 ⊢
  exact (unhide HB).trans (belowRow (h1.mono (unhide HB).size) (unhide HB).size _)
theorem neqZP (u : World) : (binOp .neq 28 (.agg #[.int .u8 0, .int .u32 0, .int .u64 0, .string ⟨#[]⟩]) (.agg #[.int .u8 0, .int .u32 0, .int .u64 0, .string ⟨#[]⟩])).run Tryz.prog u = .ok (.bool false) u := by kernel_rfl
set_option maxRecDepth 100000 in
set_option maxHeartbeats 4000000 in
theorem names7_walk (w : World) : Calls Tryz.prog 3 #[] w fun e w' => e = .returned (.bool true) ∧ Below w.heap.size w w' := by
  have hz := fun u => neqZP u
  go_enter Tryz.func3, Tryz.ntmps3
  go_wp2_with fail
  refine (sRead0 1 w).mono ?_
  rintro e w1 ⟨rfl, hb1⟩
  have HB1 := hide hb1
  obtain ⟨N1, hN1⟩ : ∃ N, N = w1.heap.size := ⟨_, rfl⟩
  have HN1 := hide hN1
  clear hb1 hN1
  go_wp2_with (first
    | (refine wpList_alloc_row (by rfl) 28 (by rfl) (some 4) (by rfl) N1 (by exact (unhide HN1).symm) _ zeroPage ?_; intro W1 HX1 HC1 HS1; simp only [Act.put, List.setIfInBounds_toArray, List.set_cons_zero, List.set_cons_succ])
    | (refine wpList_store_hid (by rfl) 28 (.tmp 4) (.tmp 17) (by rfl) N1 #[.int .u8 0, .int .u32 0, .int .u64 0, .string ⟨#[]⟩] (by rfl) (by rfl) 28 _ (unhide HX1) pageInfo rfl zp_one ?_; intro W2 HX2 HE2; simp only [Act.put])
    | fail)
  have HB2 : Hid (Below w.heap.size w W2) := by
    rw [unhide HE2]
    have h1 := unhide HC1
    rw [unhide HN1] at h1 ⊢
    exact (unhide HB1).trans (belowRow (h1.mono (unhide HB1).size) (unhide HB1).size _)
  clear HX1 HC1 HS1 HE2 HB1 HN1
  refine (btRead0 1 W2).mono ?_
  rintro e w3 ⟨rfl, hb3⟩
  have HX3 := hide ((hb3.block N1 (Array.getElem?_eq_some_iff.1 (unhide HX2)).1).trans (unhide HX2))
  have HB3 : Hid (Below w.heap.size w w3) := (unhide HB2).trans (hb3.mono (unhide HB2).size)
  obtain ⟨N3, hN3⟩ : ∃ N, N = w3.heap.size := ⟨_, rfl⟩
  have HN3 := hide hN3
  clear hb3 hN3 HB2 HX2
  go_wp2_with (first
    | (refine wpList_alloc_row (by rfl) 28 (by rfl) (some 6) (by rfl) N3 (by exact (unhide HN3).symm) _ zeroPage ?_; intro W4 HX4 HC4 HS4; simp only [Act.put, List.setIfInBounds_toArray, List.set_cons_zero, List.set_cons_succ])
    | (refine wpList_store_hid (by rfl) 28 (.tmp 6) (.tmp 22) (by rfl) N3 #[.int .u8 0, .int .u32 0, .int .u64 0, .string ⟨#[]⟩] (by rfl) (by rfl) 28 _ (unhide HX4) pageInfo rfl zp_one ?_; intro W5 HX5 HE5; simp only [Act.put])
    | fail)
  have HB5 : Hid (Below w.heap.size w W5) := by
    rw [unhide HE5]
    have h1 := unhide HC4
    rw [unhide HN3] at h1 ⊢
    exact (unhide HB3).trans (belowRow (h1.mono (unhide HB3).size) (unhide HB3).size _)
  have HY5 : Hid (W5.heap[N1]? = some (.cells #[.int .u8 0, .int .u32 0, .int .u64 0, .string ⟨#[]⟩] 28 (0, 0))) := by
    have hlt : N1 < N3 := by rw [unhide HN3]; exact (Array.getElem?_eq_some_iff.1 (unhide HX3)).1
    show _ = _
    rw [unhide HE5, heapRow_other _ _ _ _ (by omega)]
    exact ((unhide HC4).block N1 hlt).trans (unhide HX3)
  clear HX4 HC4 HS4 HE5 HB3 HN3 HX3
  refine (btAlloc0 1 _ W5).mono ?_
  rintro e w6 ⟨rfl, hw⟩
  obtain rfl := hw.symm
  clear hw
  go_wp2_with fail
  refine (openBad .nilIface 2 (by decide) W5 (fun u => surveyNil 4 u)).mono ?_
  rintro e w7 ⟨rfl, hb7⟩
  have HB7 : Hid (Below w.heap.size w w7) := (unhide HB5).trans (hb7.mono (unhide HB5).size)
  have HX7 := hide ((hb7.block N3 (Array.getElem?_eq_some_iff.1 (unhide HX5)).1).trans (unhide HX5))
  have HY7 := hide ((hb7.block N1 (Array.getElem?_eq_some_iff.1 (unhide HY5)).1).trans (unhide HY5))
  clear hb7 HB5 HX5 HY5
  go_wp2_with fail
  refine (openBad (.iface 24 (.pointer none)) 1 (by decide) w7 (fun u => survey0 u)).mono ?_
  rintro e w8 ⟨rfl, hb8⟩
  have HB8 : Hid (Below w.heap.size w w8) := (unhide HB7).trans (hb8.mono (unhide HB7).size)
  have HX8 := hide ((hb8.block N3 (Array.getElem?_eq_some_iff.1 (unhide HX7)).1).trans (unhide HX7))
  have HY8 := hide ((hb8.block N1 (Array.getElem?_eq_some_iff.1 (unhide HY7)).1).trans (unhide HY7))
  clear hb8 HB7 HX7 HY7
  go_wp2_with fail
  refine (btDrop0 w8).mono ?_
  rintro e w9 ⟨rfl, hw⟩
  obtain rfl := hw.symm
  clear hw
  have c0 : w8.cell? ⟨N1, 0, none⟩ = some (.int .u8 0) := by simp [World.cell?, unhide HY8]
  have c1 : w8.cell? ⟨N1, 1, none⟩ = some (.int .u32 0) := by simp [World.cell?, unhide HY8]
  have c2 : w8.cell? ⟨N1, 2, none⟩ = some (.int .u64 0) := by simp [World.cell?, unhide HY8]
  have c3 : w8.cell? ⟨N1, 3, none⟩ = some (.string ⟨#[]⟩) := by simp [World.cell?, unhide HY8]
  have d0 : w8.cell? ⟨N3, 0, none⟩ = some (.int .u8 0) := by simp [World.cell?, unhide HX8]
  have d1 : w8.cell? ⟨N3, 1, none⟩ = some (.int .u32 0) := by simp [World.cell?, unhide HX8]
  have d2 : w8.cell? ⟨N3, 2, none⟩ = some (.int .u64 0) := by simp [World.cell?, unhide HX8]
  have d3 : w8.cell? ⟨N3, 3, none⟩ = some (.string ⟨#[]⟩) := by simp [World.cell?, unhide HX8]
  go_wp2_with (first
    | (go_at_call 14; refine (sPages0 _).mono ?_; rintro e u1 ⟨rfl, hw⟩; obtain rfl := hw.symm; clear hw)
    | (go_at_call 15; refine (sFree0 _).mono ?_; rintro e u1 ⟨rfl, hw⟩; obtain rfl := hw.symm; clear hw)
    | (go_at_call 16; refine (sSerial0 _).mono ?_; rintro e u1 ⟨rfl, hw⟩; obtain rfl := hw.symm; clear hw)
    | (go_at_call 17; refine (sRoot0 _ _).mono ?_; rintro e u1 ⟨rfl, hw⟩; obtain rfl := hw.symm; clear hw)
    | (go_at_call 18; refine (sBegin0 _).mono ?_; rintro e u1 ⟨rfl, hw⟩; obtain rfl := hw.symm; clear hw)
    | (go_at_call 19; refine (btRoot0 _ _).mono ?_; rintro e u1 ⟨rfl, hw⟩; obtain rfl := hw.symm; clear hw)
    | (go_at_call 20; refine (btSize0 _).mono ?_; rintro e u1 ⟨rfl, hw⟩; obtain rfl := hw.symm; clear hw)
    | (go_at_call 21; refine (btWrite0 _ _ _ _).mono ?_; rintro e u1 ⟨rfl, hw⟩; obtain rfl := hw.symm; clear hw)
    | (go_at_call 22; refine (btRelease0 _ _).mono ?_; rintro e u1 ⟨rfl, hw⟩; obtain rfl := hw.symm; clear hw)
    | (go_at_call 23; refine (btSetRoot0 _ _ _).mono ?_; rintro e u1 ⟨rfl, hw⟩; obtain rfl := hw.symm; clear hw)
    | (go_at_call 24; refine (btCommit0 _).mono ?_; rintro e u1 ⟨rfl, hw⟩; obtain rfl := hw.symm; clear hw))
  go_ret
  exact ⟨rfl, unhide HB8⟩
end Go.Proofs.YtackkafmljjnjaaGreatDoor
