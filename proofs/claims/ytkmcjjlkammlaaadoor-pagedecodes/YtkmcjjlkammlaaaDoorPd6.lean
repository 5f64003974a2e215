/- The document's Decode. -/
import Derived.Test.YtkmcjjlkammlaaaDoorPr6
namespace Go.Proofs.YtkmcjjlkammlaaaDoor
open Go.RowKit Go.Lib

set_option maxRecDepth 100000 in
set_option maxHeartbeats 1000000 in
theorem mDecodeForm (T : ByteArray) (hn : T.size ≠ 1024) (num : Int) (w : World) : Calls Tryd.prog 13 #[.string T, .int .u32 num] w fun e w' => e = .returned (.tuple #[.agg #[.int .u8 0, .int .u32 0, .int .u64 0, .string ⟨#[]⟩], .int .i64 4]) ∧ Below w.heap.size w w' := by
  obtain ⟨N, hN⟩ : ∃ N, N = w.heap.size := ⟨_, rfl⟩
  have HN := hide hN
  clear hN
  have hni : ¬ (T.size : Int) = 1024 := by omega
  clear hn
  go_enter Tryd.func13, Tryd.ntmps13
  go_wp2_with (first
    | (refine wpList_alloc_row (by rfl) 25 (by rfl) (some 4) (by rfl) N (by exact (unhide HN).symm) _ zeroPage ?_; intro W1 HX1 HB1 HS1; simp only [Act.put, List.setIfInBounds_toArray, List.set_cons_zero, List.set_cons_succ])
    | (refine wpList_store_hid (by rfl) 25 (.tmp 4) (.tmp 13) (by rfl) N #[.int .u8 0, .int .u32 0, .int .u64 0, .string ⟨#[]⟩] (by rfl) (by rfl) 25 _ (unhide HX1) pageInfo (by rfl) zp_one ?_; intro W4 HX4 HE4; simp only [Act.put]))
  refine bodyPost_ret (results_cell_tmp rfl _ _ N 25 #[.int .u8 0, .int .u32 0, .int .u64 0, .string ⟨#[]⟩] (0, 0) _ rfl (unhide HX4) Tryd.underlying25 rfl pageInfo) rfl ?_
  refine ⟨rfl, ?_⟩
  rw [unhide HE4, ← unhide HN]
  exact belowRow (unhide HB1) (Nat.le_refl _) _
set_option maxRecDepth 100000 in
set_option maxHeartbeats 1000000 in
theorem mDecodeBlank (T : ByteArray) (hT : T.size = 1024) (hbk : ∀ u, Calls Tryd.prog 24 #[.string T] u fun e w' => e = .returned (.bool true) ∧ Below u.heap.size u w') (num : Int) (w : World) : Calls Tryd.prog 13 #[.string T, .int .u32 num] w fun e w' => e = .returned (.tuple #[.agg #[.int .u8 0, .int .u32 0, .int .u64 0, .string ⟨#[]⟩], .int .i64 51]) ∧ Below w.heap.size w w' := by
  obtain ⟨N, hN⟩ : ∃ N, N = w.heap.size := ⟨_, rfl⟩
  have HN := hide hN
  clear hN
  have hTi : (T.size : Int) = 1024 := by omega
  have HBk := hide hbk
  clear hbk
  go_enter Tryd.func13, Tryd.ntmps13
  go_wp2_with (refine wpList_alloc_row (by rfl) 25 (by rfl) (some 4) (by rfl) N (by exact (unhide HN).symm) _ zeroPage ?_; intro W1 HX1 HB1 HS1; simp only [Act.put, List.setIfInBounds_toArray, List.set_cons_zero, List.set_cons_succ])
  refine (unhide HBk _).mono ?_
  rintro e w2 ⟨rfl, hb⟩
  have HX2 := hide ((hb.block N (by have := unhide HS1; omega)).trans (unhide HX1))
  have HB2 := hide ((unhide HB1).trans (hb.mono (by have := unhide HS1; omega)))
  have HS2 : Hid (N < w2.heap.size) := by show _ < _; have := unhide HS1; have := hb.size; omega
  clear hb HBk HX1 HB1 HS1
  go_wp2_with (refine wpList_store_hid (by rfl) 25 (.tmp 4) (.tmp 16) (by rfl) N #[.int .u8 0, .int .u32 0, .int .u64 0, .string ⟨#[]⟩] (by rfl) (by rfl) 25 _ (unhide HX2) pageInfo (by rfl) zp_one ?_; intro W4 HX4 HE4; simp only [Act.put])
  refine bodyPost_ret (results_cell_tmp rfl _ _ N 25 #[.int .u8 0, .int .u32 0, .int .u64 0, .string ⟨#[]⟩] (0, 0) _ rfl (unhide HX4) Tryd.underlying25 rfl pageInfo) rfl ?_
  refine ⟨rfl, ?_⟩
  rw [unhide HE4, ← unhide HN]
  exact belowRow (unhide HB2) (Nat.le_refl _) _
set_option maxRecDepth 100000 in
set_option maxHeartbeats 1000000 in
theorem mDecodeBig (T : ByteArray) (hT : T.size = 1024) (hbk : ∀ u, Calls Tryd.prog 24 #[.string T] u fun e w' => e = .returned (.bool false) ∧ Below u.heap.size u w') (hn : 996 < lenOf T) (num : Int) (w : World) : Calls Tryd.prog 13 #[.string T, .int .u32 num] w fun e w' => e = .returned (.tuple #[.agg #[.int .u8 0, .int .u32 0, .int .u64 0, .string ⟨#[]⟩], .int .i64 50]) ∧ Below w.heap.size w w' := by
  obtain ⟨N, hN⟩ : ∃ N, N = w.heap.size := ⟨_, rfl⟩
  have HN := hide hN
  clear hN
  have hTi : (T.size : Int) = 1024 := by omega
  have HBk := hide hbk
  clear hbk
  go_enter Tryd.func13, Tryd.ntmps13
  go_wp2_with (refine wpList_alloc_row (by rfl) 25 (by rfl) (some 4) (by rfl) N (by exact (unhide HN).symm) _ zeroPage ?_; intro W1 HX1 HB1 HS1; simp only [Act.put, List.setIfInBounds_toArray, List.set_cons_zero, List.set_cons_succ])
  refine (unhide HBk _).mono ?_
  rintro e w2 ⟨rfl, hb⟩
  have HX2 := hide ((hb.block N (by have := unhide HS1; omega)).trans (unhide HX1))
  have HB2 := hide ((unhide HB1).trans (hb.mono (by have := unhide HS1; omega)))
  have HS2 : Hid (N < w2.heap.size) := by show _ < _; have := unhide HS1; have := hb.size; omega
  clear hb HBk HX1 HB1 HS1
  have HLe : Hid (Calls Tryd.prog 25 #[.string (T.extract 10 12)] w2 fun e w' => e = .returned (.int .u64 (lenOf T : Int)) ∧ w' = w2) := mNumber (T.extract 10 12) (by rw [ByteArray.size_extract]; omega) w2
  have hle : lenOf T < 65536 := numB_le T 10 12 2 (by decide)
  generalize hlen : lenOf T = n at *
  have HLn := hide hlen
  clear hlen
  go_wp2_with fail
  refine (unhide HLe).mono ?_
  rintro e w3 ⟨rfl, rfl⟩
  clear HLe
  go_wp2_with (refine wpList_store_hid (by rfl) 25 (.tmp 4) (.tmp 23) (by rfl) N #[.int .u8 0, .int .u32 0, .int .u64 0, .string ⟨#[]⟩] (by rfl) (by rfl) 25 _ (unhide HX2) pageInfo (by rfl) zp_one ?_; intro W4 HX4 HE4; simp only [Act.put])
  refine bodyPost_ret (results_cell_tmp rfl _ _ N 25 #[.int .u8 0, .int .u32 0, .int .u64 0, .string ⟨#[]⟩] (0, 0) _ rfl (unhide HX4) Tryd.underlying25 rfl pageInfo) rfl ?_
  refine ⟨rfl, ?_⟩
  rw [unhide HE4, ← unhide HN]
  exact belowRow (unhide HB2) (Nat.le_refl _) _
theorem byteAt_eq (T : ByteArray) (k : Nat) (hk : k < T.size) : byteAt T k = (T[k]'hk).toNat := by
  have h := take_snoc T k hk
  have e : (T.extract k (k + 1)).data.toList = [T[k]'hk] := by
    have h2 := ext_list T.data.toList k (k + 1)
    simp only [Array.toArray_toList] at h2
    rw [h2, h, List.drop_append_of_le_length (by rw [List.length_take, size_toList]; omega), List.drop_of_length_le (by rw [List.length_take]; omega), List.nil_append]
  rw [byteAt, e, numB_byte]
set_option maxRecDepth 100000 in
set_option maxHeartbeats 4000000 in
theorem mDecodeWrong (T : ByteArray) (hT : T.size = 1024) (hbk : ∀ u, Calls Tryd.prog 24 #[.string T] u fun e w' => e = .returned (.bool false) ∧ Below u.heap.size u w') (hn : lenOf T ≤ 996) (num : Nat) (kd sr : Nat) (bd : ByteArray) (hkd : byteAt T 8 = kd) (hsr : numB (T.extract 0 8).data.toList = sr) (hbd0 : T.extract 20 (20 + lenOf T) = bd) (enS : ByteArray) (r : Int) (hen : ∀ u, Calls Tryd.prog 9 #[.agg #[.int .u8 (kd : Int), .int .u32 (num : Int), .int .u64 (sr : Int), .string bd]] u fun e w' => e = .returned (.tuple #[.string enS, .int .i64 r]) ∧ Below u.heap.size u w') (hr : ¬ r = 0) (w : World) : Calls Tryd.prog 13 #[.string T, .int .u32 (num : Int)] w fun e w' => e = .returned (.tuple #[.agg #[.int .u8 0, .int .u32 0, .int .u64 0, .string ⟨#[]⟩], .int .i64 50]) ∧ Below w.heap.size w w' := by
  obtain ⟨N, hN⟩ : ∃ N, N = w.heap.size := ⟨_, rfl⟩
  have HN := hide hN
  clear hN
  have HKd := hide hkd
  have HSr := hide hsr
  have HBd := hide hbd0
  have HEn := hide hen
  clear hkd hsr hbd0 hen
  have hTi : (T.size : Int) = 1024 := by omega
  have HBk := hide hbk
  clear hbk
  go_enter Tryd.func13, Tryd.ntmps13
  go_wp2_with (refine wpList_alloc_row (by rfl) 25 (by rfl) (some 4) (by rfl) N (by exact (unhide HN).symm) _ zeroPage ?_; intro W1 HX1 HB1 HS1; simp only [Act.put, List.setIfInBounds_toArray, List.set_cons_zero, List.set_cons_succ])
  refine (unhide HBk _).mono ?_
  rintro e w2 ⟨rfl, hb⟩
  have HX2 := hide ((hb.block N (by have := unhide HS1; omega)).trans (unhide HX1))
  have HB2 := hide ((unhide HB1).trans (hb.mono (by have := unhide HS1; omega)))
  have HS2 : Hid (N < w2.heap.size) := by show _ < _; have := unhide HS1; have := hb.size; omega
  clear hb HBk HX1 HB1 HS1
  have HLe : Hid (Calls Tryd.prog 25 #[.string (T.extract 10 12)] w2 fun e w' => e = .returned (.int .u64 (lenOf T : Int)) ∧ w' = w2) := mNumber (T.extract 10 12) (by rw [ByteArray.size_extract]; omega) w2
  have hle : lenOf T < 65536 := numB_le T 10 12 2 (by decide)
  generalize hlen : lenOf T = n at *
  have HLn := hide hlen
  clear hlen
  go_wp2_with fail
  refine (unhide HLe).mono ?_
  rintro e w3 ⟨rfl, rfl⟩
  clear HLe
  have HSe : Hid (∀ u, Calls Tryd.prog 25 #[.string (T.extract 0 8)] u fun e w' => e = .returned (.int .u64 (sr : Int)) ∧ w' = u) := fun u => by rw [← unhide HSr]; exact mNumber (T.extract 0 8) (by rw [ByteArray.size_extract]; omega) u
  have hk8 : (T[8]'(by omega)).toNat = kd := by rw [← byteAt_eq T 8 (by omega)]; exact unhide HKd
  obtain ⟨m, hm, hm1, hm2, hmw⟩ : ∃ m : Nat, m = 20 + n ∧ (20 : Int) ≤ (m : Int) ∧ (m : Int) ≤ 1024 ∧ IntKind.i64.wrap (20 + (n : Int)) = (m : Int) := ⟨20 + n, rfl, by omega, by omega, by rw [IntKind.wrap_i64]; omega⟩
  have hm0 : (0 : Int) ≤ (m : Int) := by omega
  have hbd : T.extract 20 m = bd := by rw [hm]; exact unhide HBd
  clear hm
  go_wp2_with fail
  go_region_held3 (fun _ => True) (exact trivial) (first | (go_at_call 25; refine (unhide HSe _).mono ?_; rintro e w5 ⟨rfl, rfl⟩))
  all_goals (
    have HQ := hide (Xb.start w3 #[.int .u8 (kd : Int), .int .u32 (num : Int), .int .u64 (sr : Int), .string bd] 25).drew
    have HX3 := hide (((unhide HQ).bel.block N (unhide HS2)).trans (unhide HX2))
    have HB3 := hide ((unhide HB2).trans ((unhide HQ).bel.mono (Nat.le_of_lt (unhide HS2))))
    have HS3 := hide (Nat.lt_of_lt_of_le (unhide HS2) (unhide HQ).bel.size)
    clear HX2 HB2 hm0 hm1 hm2 hmw hbd hk8 HSe HSr HKd HBd HLn hTi hT
    generalize ((w3.alloc (.cells #[.int .u8 (kd : Int), .int .u32 (num : Int), .int .u64 (sr : Int), .string bd] 25)).drew) = u at *
    have y0 := (unhide HQ).x 0
    have y1 := (unhide HQ).x 1
    have y2 := (unhide HQ).x 2
    have y3 := (unhide HQ).x 3
    simp only [List.getElem?_toArray, List.getElem?_cons_zero, List.getElem?_cons_succ] at y0 y1 y2 y3
    go_wp2_with fail
    clear y0 y1 y2 y3
    refine (unhide HEn _).mono ?_
    rintro e w6 ⟨rfl, hb⟩
    have HX6 := hide ((hb.block N (unhide HS3)).trans (unhide HX3))
    have HB6 := hide ((unhide HB3).trans (hb.mono (Nat.le_of_lt (unhide HS3))))
    have HQ6 := hide ((unhide HQ).below hb)
    clear hb HX3 HB3 HEn HQ
    go_wp2_with (refine wpList_store_hid (by rfl) 25 (.tmp 4) (.tmp 47) (by rfl) N #[.int .u8 0, .int .u32 0, .int .u64 0, .string ⟨#[]⟩] (by rfl) (by rfl) 25 _ (unhide HX6) pageInfo (by rfl) zp_one ?_; intro W4 HX4 HE4; simp only [Act.put])
    refine bodyPost_ret (results_cell_tmp rfl _ _ N 25 #[.int .u8 0, .int .u32 0, .int .u64 0, .string ⟨#[]⟩] (0, 0) _ rfl (unhide HX4) Tryd.underlying25 rfl pageInfo) rfl ?_
    refine ⟨rfl, ?_⟩
    rw [unhide HE4, ← unhide HN]
    exact belowRow (unhide HB6) (Nat.le_refl _) _)
set_option maxRecDepth 100000 in
set_option maxHeartbeats 4000000 in
theorem mDecodeUnlike (T : ByteArray) (hT : T.size = 1024) (hbk : ∀ u, Calls Tryd.prog 24 #[.string T] u fun e w' => e = .returned (.bool false) ∧ Below u.heap.size u w') (hn : lenOf T ≤ 996) (num : Nat) (kd sr : Nat) (bd : ByteArray) (hkd : byteAt T 8 = kd) (hsr : numB (T.extract 0 8).data.toList = sr) (hbd0 : T.extract 20 (20 + lenOf T) = bd) (enS : ByteArray) (r : Int) (hen : ∀ u, Calls Tryd.prog 9 #[.agg #[.int .u8 (kd : Int), .int .u32 (num : Int), .int .u64 (sr : Int), .string bd]] u fun e w' => e = .returned (.tuple #[.string enS, .int .i64 r]) ∧ Below u.heap.size u w') (hr : r = 0) (hne : (enS.toList == T.toList) = false) (w : World) : Calls Tryd.prog 13 #[.string T, .int .u32 (num : Int)] w fun e w' => e = .returned (.tuple #[.agg #[.int .u8 0, .int .u32 0, .int .u64 0, .string ⟨#[]⟩], .int .i64 50]) ∧ Below w.heap.size w w' := by
  obtain ⟨N, hN⟩ : ∃ N, N = w.heap.size := ⟨_, rfl⟩
  have HN := hide hN
  clear hN
  have HKd := hide hkd
  have HSr := hide hsr
  have HBd := hide hbd0
  have HEn := hide hen
  clear hkd hsr hbd0 hen
  have hTi : (T.size : Int) = 1024 := by omega
  have HBk := hide hbk
  clear hbk
  go_enter Tryd.func13, Tryd.ntmps13
  go_wp2_with (refine wpList_alloc_row (by rfl) 25 (by rfl) (some 4) (by rfl) N (by exact (unhide HN).symm) _ zeroPage ?_; intro W1 HX1 HB1 HS1; simp only [Act.put, List.setIfInBounds_toArray, List.set_cons_zero, List.set_cons_succ])
  refine (unhide HBk _).mono ?_
  rintro e w2 ⟨rfl, hb⟩
  have HX2 := hide ((hb.block N (by have := unhide HS1; omega)).trans (unhide HX1))
  have HB2 := hide ((unhide HB1).trans (hb.mono (by have := unhide HS1; omega)))
  have HS2 : Hid (N < w2.heap.size) := by show _ < _; have := unhide HS1; have := hb.size; omega
  clear hb HBk HX1 HB1 HS1
  have HLe : Hid (Calls Tryd.prog 25 #[.string (T.extract 10 12)] w2 fun e w' => e = .returned (.int .u64 (lenOf T : Int)) ∧ w' = w2) := mNumber (T.extract 10 12) (by rw [ByteArray.size_extract]; omega) w2
  have hle : lenOf T < 65536 := numB_le T 10 12 2 (by decide)
  generalize hlen : lenOf T = n at *
  have HLn := hide hlen
  clear hlen
  go_wp2_with fail
  refine (unhide HLe).mono ?_
  rintro e w3 ⟨rfl, rfl⟩
  clear HLe
  have HSe : Hid (∀ u, Calls Tryd.prog 25 #[.string (T.extract 0 8)] u fun e w' => e = .returned (.int .u64 (sr : Int)) ∧ w' = u) := fun u => by rw [← unhide HSr]; exact mNumber (T.extract 0 8) (by rw [ByteArray.size_extract]; omega) u
  have hk8 : (T[8]'(by omega)).toNat = kd := by rw [← byteAt_eq T 8 (by omega)]; exact unhide HKd
  obtain ⟨m, hm, hm1, hm2, hmw⟩ : ∃ m : Nat, m = 20 + n ∧ (20 : Int) ≤ (m : Int) ∧ (m : Int) ≤ 1024 ∧ IntKind.i64.wrap (20 + (n : Int)) = (m : Int) := ⟨20 + n, rfl, by omega, by omega, by rw [IntKind.wrap_i64]; omega⟩
  have hm0 : (0 : Int) ≤ (m : Int) := by omega
  have hbd : T.extract 20 m = bd := by rw [hm]; exact unhide HBd
  clear hm
  go_wp2_with fail
  go_region_held3 (fun _ => True) (exact trivial) (first | (go_at_call 25; refine (unhide HSe _).mono ?_; rintro e w5 ⟨rfl, rfl⟩))
  all_goals (
    have HQ := hide (Xb.start w3 #[.int .u8 (kd : Int), .int .u32 (num : Int), .int .u64 (sr : Int), .string bd] 25).drew
    have HX3 := hide (((unhide HQ).bel.block N (unhide HS2)).trans (unhide HX2))
    have HB3 := hide ((unhide HB2).trans ((unhide HQ).bel.mono (Nat.le_of_lt (unhide HS2))))
    have HS3 := hide (Nat.lt_of_lt_of_le (unhide HS2) (unhide HQ).bel.size)
    clear HX2 HB2 hm0 hm1 hm2 hmw hbd hk8 HSe HSr HKd HBd HLn hTi hT
    generalize ((w3.alloc (.cells #[.int .u8 (kd : Int), .int .u32 (num : Int), .int .u64 (sr : Int), .string bd] 25)).drew) = u at *
    have y0 := (unhide HQ).x 0
    have y1 := (unhide HQ).x 1
    have y2 := (unhide HQ).x 2
    have y3 := (unhide HQ).x 3
    simp only [List.getElem?_toArray, List.getElem?_cons_zero, List.getElem?_cons_succ] at y0 y1 y2 y3
    go_wp2_with fail
    clear y0 y1 y2 y3
    refine (unhide HEn _).mono ?_
    rintro e w6 ⟨rfl, hb⟩
    have HX6 := hide ((hb.block N (unhide HS3)).trans (unhide HX3))
    have HB6 := hide ((unhide HB3).trans (hb.mono (Nat.le_of_lt (unhide HS3))))
    have HQ6 := hide ((unhide HQ).below hb)
    clear hb HX3 HB3 HEn HQ
    subst hr
    go_wp2_with (refine wpList_store_hid (by rfl) 25 (.tmp 4) (.tmp 47) (by rfl) N #[.int .u8 0, .int .u32 0, .int .u64 0, .string ⟨#[]⟩] (by rfl) (by rfl) 25 _ (unhide HX6) pageInfo (by rfl) zp_one ?_; intro W4 HX4 HE4; simp only [Act.put])
    refine bodyPost_ret (results_cell_tmp rfl _ _ N 25 #[.int .u8 0, .int .u32 0, .int .u64 0, .string ⟨#[]⟩] (0, 0) _ rfl (unhide HX4) Tryd.underlying25 rfl pageInfo) rfl ?_
    refine ⟨rfl, ?_⟩
    rw [unhide HE4, ← unhide HN]
    exact belowRow (unhide HB6) (Nat.le_refl _) _)
set_option maxRecDepth 100000 in
set_option maxHeartbeats 4000000 in
theorem mDecodeOk (T : ByteArray) (hT : T.size = 1024) (hbk : ∀ u, Calls Tryd.prog 24 #[.string T] u fun e w' => e = .returned (.bool false) ∧ Below u.heap.size u w') (hn : lenOf T ≤ 996) (num : Nat) (kd sr : Nat) (bd : ByteArray) (hkd : byteAt T 8 = kd) (hsr : numB (T.extract 0 8).data.toList = sr) (hbd0 : T.extract 20 (20 + lenOf T) = bd) (enS : ByteArray) (r : Int) (hen : ∀ u, Calls Tryd.prog 9 #[.agg #[.int .u8 (kd : Int), .int .u32 (num : Int), .int .u64 (sr : Int), .string bd]] u fun e w' => e = .returned (.tuple #[.string enS, .int .i64 r]) ∧ Below u.heap.size u w') (hr : r = 0) (hne : enS = T) (w : World) : Calls Tryd.prog 13 #[.string T, .int .u32 (num : Int)] w fun e w' => e = .returned (.tuple #[.agg #[.int .u8 (kd : Int), .int .u32 (num : Int), .int .u64 (sr : Int), .string bd], .int .i64 0]) ∧ Below w.heap.size w w' := by
  obtain ⟨N, hN⟩ : ∃ N, N = w.heap.size := ⟨_, rfl⟩
  have HN := hide hN
  clear hN
  have HKd := hide hkd
  have HSr := hide hsr
  have HBd := hide hbd0
  have HEn := hide hen
  clear hkd hsr hbd0 hen
  have hTi : (T.size : Int) = 1024 := by omega
  have HBk := hide hbk
  clear hbk
  go_enter Tryd.func13, Tryd.ntmps13
  go_wp2_with (refine wpList_alloc_row (by rfl) 25 (by rfl) (some 4) (by rfl) N (by exact (unhide HN).symm) _ zeroPage ?_; intro W1 HX1 HB1 HS1; simp only [Act.put, List.setIfInBounds_toArray, List.set_cons_zero, List.set_cons_succ])
  refine (unhide HBk _).mono ?_
  rintro e w2 ⟨rfl, hb⟩
  have HX2 := hide ((hb.block N (by have := unhide HS1; omega)).trans (unhide HX1))
  have HB2 := hide ((unhide HB1).trans (hb.mono (by have := unhide HS1; omega)))
  have HS2 : Hid (N < w2.heap.size) := by show _ < _; have := unhide HS1; have := hb.size; omega
  clear hb HBk HX1 HB1 HS1
  have HLe : Hid (Calls Tryd.prog 25 #[.string (T.extract 10 12)] w2 fun e w' => e = .returned (.int .u64 (lenOf T : Int)) ∧ w' = w2) := mNumber (T.extract 10 12) (by rw [ByteArray.size_extract]; omega) w2
  have hle : lenOf T < 65536 := numB_le T 10 12 2 (by decide)
  generalize hlen : lenOf T = n at *
  have HLn := hide hlen
  clear hlen
  go_wp2_with fail
  refine (unhide HLe).mono ?_
  rintro e w3 ⟨rfl, rfl⟩
  clear HLe
  have HSe : Hid (∀ u, Calls Tryd.prog 25 #[.string (T.extract 0 8)] u fun e w' => e = .returned (.int .u64 (sr : Int)) ∧ w' = u) := fun u => by rw [← unhide HSr]; exact mNumber (T.extract 0 8) (by rw [ByteArray.size_extract]; omega) u
  have hk8 : (T[8]'(by omega)).toNat = kd := by rw [← byteAt_eq T 8 (by omega)]; exact unhide HKd
  obtain ⟨m, hm, hm1, hm2, hmw⟩ : ∃ m : Nat, m = 20 + n ∧ (20 : Int) ≤ (m : Int) ∧ (m : Int) ≤ 1024 ∧ IntKind.i64.wrap (20 + (n : Int)) = (m : Int) := ⟨20 + n, rfl, by omega, by omega, by rw [IntKind.wrap_i64]; omega⟩
  have hm0 : (0 : Int) ≤ (m : Int) := by omega
  have hbd : T.extract 20 m = bd := by rw [hm]; exact unhide HBd
  clear hm
  go_wp2_with fail
  go_region_held3 (fun _ => True) (exact trivial) (first | (go_at_call 25; refine (unhide HSe _).mono ?_; rintro e w5 ⟨rfl, rfl⟩))
  all_goals (
    have HQ := hide (Xb.start w3 #[.int .u8 (kd : Int), .int .u32 (num : Int), .int .u64 (sr : Int), .string bd] 25).drew
    have HX3 := hide (((unhide HQ).bel.block N (unhide HS2)).trans (unhide HX2))
    have HB3 := hide ((unhide HB2).trans ((unhide HQ).bel.mono (Nat.le_of_lt (unhide HS2))))
    have HS3 := hide (Nat.lt_of_lt_of_le (unhide HS2) (unhide HQ).bel.size)
    clear HX2 HB2 hm0 hm1 hm2 hmw hbd hk8 HSe HSr HKd HBd HLn hTi hT
    generalize ((w3.alloc (.cells #[.int .u8 (kd : Int), .int .u32 (num : Int), .int .u64 (sr : Int), .string bd] 25)).drew) = u at *
    have y0 := (unhide HQ).x 0
    have y1 := (unhide HQ).x 1
    have y2 := (unhide HQ).x 2
    have y3 := (unhide HQ).x 3
    simp only [List.getElem?_toArray, List.getElem?_cons_zero, List.getElem?_cons_succ] at y0 y1 y2 y3
    go_wp2_with fail
    clear y0 y1 y2 y3
    refine (unhide HEn _).mono ?_
    rintro e w6 ⟨rfl, hb⟩
    have HX6 := hide ((hb.block N (unhide HS3)).trans (unhide HX3))
    have HB6 := hide ((unhide HB3).trans (hb.mono (Nat.le_of_lt (unhide HS3))))
    have HQ6 := hide ((unhide HQ).below hb)
    clear hb HX3 HB3 HEn HQ
    subst hr
    subst hne
    have y0 := (unhide HQ6).x 0
    have y1 := (unhide HQ6).x 1
    have y2 := (unhide HQ6).x 2
    have y3 := (unhide HQ6).x 3
    simp only [List.getElem?_toArray, List.getElem?_cons_zero, List.getElem?_cons_succ] at y0 y1 y2 y3
    go_wp2_with (refine wpList_store_hid (by rfl) 25 (.tmp 4) (.tmp 48) (by rfl) N #[.int .u8 (kd : Int), .int .u32 (num : Int), .int .u64 (sr : Int), .string bd] (by rfl) (by rfl) 25 _ (unhide HX6) pageInfo (by rfl) (page_one _ _ _ _) ?_; intro W4 HX4 HE4; simp only [Act.put])
    refine bodyPost_ret (results_cell_tmp rfl _ _ N 25 #[.int .u8 (kd : Int), .int .u32 (num : Int), .int .u64 (sr : Int), .string bd] (0, 0) _ rfl (unhide HX4) Tryd.underlying25 rfl pageInfo) rfl ?_
    refine ⟨rfl, ?_⟩
    rw [unhide HE4, ← unhide HN]
    exact belowRow (unhide HB6) (Nat.le_refl _) _)
end Go.Proofs.YtkmcjjlkammlaaaDoor
