/- DiskTorn: the walk. -/
import Derived.Test.YtfdibmbffmgikaaKl
namespace Go.Proofs.Ytfdibmbffmgikaa
open Go.RowKit Go.Lib

theorem conv_bytes (w : World) (s : ByteArray) : ∃ c W, (convert 9 28 (.string s)).run Try.prog w = .ok (.slice (some ⟨w.heap.size, 0, none⟩) s.size c) W ∧ W.rangeAt w.heap.size 0 (byteCells s.data.toList) ∧ Below w.heap.size w W ∧ W.heap.size = w.heap.size + 1 := by
  refine ⟨_, _, Lib.run_convert_string_bytes w 9 28 5 s Try.underlying9 Try.underlying28 Try.underlying5, fun j v hv => ?_, ⟨rfl, rfl, rfl, by rw [Lib.bytesWorld_size]; omega, fun k hk => Lib.bytesWorld_at_old w _ s k hk⟩, Lib.bytesWorld_size _ _ _⟩
  have hj : j < s.data.toList.length := by have := (List.getElem?_eq_some_iff.1 hv).1; rwa [byteCells_length] at this
  rw [Nat.zero_add, Lib.bytesWorld_cell w 5 s j (by simpa using hj), ← hv, bcells_at _ j hj, List.getD_eq_getElem?_getD, List.getElem?_eq_getElem hj]
  rfl
theorem settle0 (p q : List UInt8) (hp : p.length = 1024) (hq : q.length = 1024) : (⟨[q], [(0, p)], false, -1⟩ : Dk).settle (fun _ => 1024) = ⟨[p], [], false, -1⟩ := by
  simp [Dk.settle, Dk.landed, List.take_of_length_le (Nat.le_of_eq hp), List.drop_of_length_le (Nat.le_of_eq hq)]
theorem crash0 (p q : List UInt8) (keep : Bool) (cut : Int) (m : Nat) (hm : (min (max cut 0) 128).toNat * 8 = m) : (⟨[q], [(0, p)], false, -1⟩ : Dk).crash (share [keep] 0 cut) = ⟨[p.take m ++ q.drop m], [], false, -1⟩ := by
  simp [Dk.crash, Dk.landed, share, hm]
theorem size_mk (l : List UInt8) : (⟨l.toArray⟩ : ByteArray).size = l.length := by simp [ByteArray.size]
theorem ext_to (l : List UInt8) (m : Nat) : (⟨l.toArray⟩ : ByteArray).extract 0 m = ⟨(l.take m).toArray⟩ := by
  apply ByteArray.ext
  rw [ByteArray.data_extract]
  simp
theorem ext_from (l : List UInt8) (m : Nat) (n : Nat) (hn : n = l.length) : (⟨l.toArray⟩ : ByteArray).extract m n = ⟨(l.drop m).toArray⟩ := by
  apply ByteArray.ext
  rw [ByteArray.data_extract]
  simp [hn]
  exact List.take_of_length_le (by simp)
theorem ba_append (a b : List UInt8) : (⟨(a ++ b).toArray⟩ : ByteArray) = ⟨a.toArray⟩ ++ ⟨b.toArray⟩ := by
  apply ByteArray.ext
  simp
theorem sl_to (l : List UInt8) (m : Nat) (hm : m ≤ l.length) (W : World) : (Instr.sliceAt 9 (.string ⟨l.toArray⟩) none (some (.int .i64 (m : Int))) none).run Try.prog W = .ok (.string ⟨(l.take m).toArray⟩) W := by
  rw [run_sliceAt_string W 9 _ _ _ _ Try.underlying9, run_slice_string_h W 9 _ Try.underlying9 .i64 _ (by omega) (by rw [size_mk]; omega), Int.toNat_natCast, ext_to]
theorem sl_from (l : List UInt8) (m : Nat) (hm : m ≤ l.length) (W : World) : (Instr.sliceAt 9 (.string ⟨l.toArray⟩) (some (.int .i64 (m : Int))) none none).run Try.prog W = .ok (.string ⟨(l.drop m).toArray⟩) W := by
  rw [run_sliceAt_string W 9 _ _ _ _ Try.underlying9, run_slice_string_l W 9 _ Try.underlying9 .i64 _ (by omega) (by rw [size_mk]; omega), Int.toNat_natCast, ext_from l m _ (size_mk l)]
set_option maxRecDepth 100000 in
set_option maxHeartbeats 4000000 in
theorem torn_walk (old new : ByteArray) (h1 : old.size ≤ 140737488355328) (h2 : new.size ≤ 140737488355328) (cut : Int) (keep : Bool) (u : World) :
    Calls Try.prog 9 #[.string old, .string new, .int .i64 cut, .bool keep] u fun e u' => e = .returned (.bool true) ∧ Below u.heap.size u u' := by
  obtain ⟨B, hB⟩ : ∃ B, B = u.heap.size := ⟨_, rfl⟩
  rw [← hB]
  have HB := hide hB
  have HLe : Hid (∀ w, Below B u w → B ≤ w.heap.size) := fun w h => by rw [hB]; exact h.size
  clear hB
  have HCA := hide (fun w => lContent ⟨0, 0, old, false, none, 0, 0, 0, 0⟩ h1 w)
  have HCB := hide (fun w => lContent ⟨0, 0, new, false, none, 0, 0, 0, 0⟩ h2 w)
  have HLA := hide (contL_len old)
  have HLB := hide (contL_len new)
  obtain ⟨A, hA⟩ : ∃ l, l = contL old := ⟨_, rfl⟩
  obtain ⟨Bn, hBn⟩ : ∃ l, l = contL new := ⟨_, rfl⟩
  have eA : cont old false = A := by rw [hA]; rfl
  have eB : cont new false = Bn := by rw [hBn]; rfl
  simp only [eA] at HCA
  simp only [eB] at HCB
  rw [← hA] at HLA
  rw [← hBn] at HLB
  clear hA hBn eA eB h1 h2
  obtain ⟨SA, hSA⟩ : ∃ S : ByteArray, S = ⟨A.toArray⟩ := ⟨_, rfl⟩
  obtain ⟨SB, hSB⟩ : ∃ S : ByteArray, S = ⟨Bn.toArray⟩ := ⟨_, rfl⟩
  simp only [← hSA] at HCA
  simp only [← hSB] at HCB
  simp only [St.cs] at HCA HCB
  have hzA : SA.size = 1024 := by rw [hSA, size_mk]; exact unhide HLA
  have hzB : SB.size = 1024 := by rw [hSB, size_mk]; exact unhide HLB
  have HZA : Hid (SA.data.toList = A) := (show SA.data.toList = A from by rw [hSA])
  have HZB : Hid (SB.data.toList = Bn) := (show SB.data.toList = Bn from by rw [hSB])
  have HSA := hide (And.intro hSA hzA)
  have HSB := hide (And.intro hSB hzB)
  clear hSA hSB hzA hzB
  go_enter Try.func9, Try.ntmps9
  go_wp2_with fail
  refine (wakes u).mono ?_
  rintro e w1 ⟨rfl, hb⟩
  have HBB : Hid (Below B u w1) := by rw [unhide HB]; exact hb
  clear hb
  go_wp2_with fail
  have HN := hide (dNew 1 (by decide) (by decide) w1)
  refine (unhide HN).mono ?_
  rintro e w2 ⟨D, F, rfl, hd, hb⟩
  obtain ⟨B2, hB2⟩ : ∃ b, b = w1.heap.size := ⟨_, rfl⟩
  rw [← hB2] at hd
  have hbl : Dk.blank 1 = ⟨[zeros 1024], [], false, -1⟩ := rfl
  rw [hbl] at hd
  have HGE : Hid (B ≤ B2) := by rw [hB2]; exact unhide HLe _ (unhide HBB)
  have HD := hide hd
  have HBX : Hid (Below B u w2 ∧ B2 ≤ w2.heap.size) := ⟨(unhide HBB).trans (hb.mono (unhide HLe _ (unhide HBB))), by rw [hB2]; exact hb.size⟩
  clear hd hb HN HBB hB2 hbl w1
  go_wp2_with fail
  refine (unhide HCA _).mono ?_
  rintro e w3 ⟨rfl, hb⟩
  have HD3 := hide ((unhide HD).below hb)
  have HBX3 : Hid (Below B u w3 ∧ B2 ≤ w3.heap.size) := ⟨(unhide HBX).1.trans (hb.mono (unhide HLe _ (unhide HBX).1)), Nat.le_trans (unhide HBX).2 hb.size⟩
  clear hb HD HBX w2
  go_wp2_with fail
  refine (unhide HCB _).mono ?_
  rintro e w4 ⟨rfl, hb⟩
  have HD4 := hide ((unhide HD3).below hb)
  have HBX4 : Hid (Below B u w4 ∧ B2 ≤ w4.heap.size) := ⟨(unhide HBX3).1.trans (hb.mono (unhide HLe _ (unhide HBX3).1)), Nat.le_trans (unhide HBX3).2 hb.size⟩
  clear hb HD3 HBX3 w3
  obtain ⟨c5, w5, hcv, hr, hb, hs⟩ := conv_bytes w4 SA
  have HR5 := hide hr
  have HD5 := hide ((unhide HD4).below hb)
  have HBX5 : Hid (Below B u w5 ∧ B2 ≤ w5.heap.size) := ⟨(unhide HBX4).1.trans (hb.mono (unhide HLe _ (unhide HBX4).1)), Nat.le_trans (unhide HBX4).2 hb.size⟩
  have HF5 : Hid (w4.heap.size ∉ F) := fun hx => by have := ((unhide HD4).ge _ hx).2; omega
  rw [(unhide HSA).2] at hcv
  clear hr hb hs HD4 HBX4
  go_wp2_with fail
  rw [unhide HZA] at HR5
  refine (kWriteN (unhide HD5) (unhide HBX5).2 0 _ 1024 c5 A (unhide HLA).symm (fun _ => ⟨_, 0, rfl, unhide HF5, unhide HR5⟩) (by show (0 : Nat) ≤ _; decide) (0, ⟨[zeros 1024], [(0, A)], false, -1⟩) (Dk.write_ok (d := ⟨[zeros 1024], [], false, -1⟩) (n := 0) rfl (by show (-1 : Int) < 0; decide) (by show 0 < 1; decide) (unhide HLA))).mono ?_
  rintro e w6 ⟨rfl, F6, hd, hu, hs⟩
  have HD6 := hide hd
  have HBX6 : Hid (Below B u w6 ∧ B2 ≤ w6.heap.size) := ⟨(unhide HBX5).1.trans (hu.below (unhide HLe _ (unhide HBX5).1) (fun k hk => Nat.le_trans (unhide HGE) ((unhide HD5).ge k hk).1)), Nat.le_trans (unhide HBX5).2 hu.size⟩
  clear hd hu hs HD5 HBX5 HR5 HF5 hcv w5
  go_wp2_with fail
  refine (kSyncN (unhide HD6) (by show (1 : Nat) ≤ _; decide) (0, ⟨[A], [], false, -1⟩) (by rw [Dk.sync_ok rfl (by show (-1 : Int) < 0; decide), settle0 A _ (unhide HLA) (zlen _)])).mono ?_
  rintro e w7 ⟨rfl, F7, hd, hu, hs⟩
  have HD7 := hide hd
  have HBX7 : Hid (Below B u w7 ∧ B2 ≤ w7.heap.size) := ⟨(unhide HBX6).1.trans (hu.below (unhide HLe _ (unhide HBX6).1) (fun k hk => Nat.le_trans (unhide HGE) ((unhide HD6).ge k hk).1)), Nat.le_trans (unhide HBX6).2 hu.size⟩
  clear hd hu hs HD6 HBX6 w6
  obtain ⟨c8, w8, hcv, hr, hb, hs⟩ := conv_bytes w7 SB
  have HR5 := hide hr
  have HD5 := hide ((unhide HD7).below hb)
  have HBX5 : Hid (Below B u w8 ∧ B2 ≤ w8.heap.size) := ⟨(unhide HBX7).1.trans (hb.mono (unhide HLe _ (unhide HBX7).1)), Nat.le_trans (unhide HBX7).2 hb.size⟩
  have HF5 : Hid (w7.heap.size ∉ F7) := fun hx => by have := ((unhide HD7).ge _ hx).2; omega
  rw [(unhide HSB).2] at hcv
  clear hr hb hs HD7 HBX7
  go_wp2_with fail
  rw [unhide HZB] at HR5
  refine (kWriteN (unhide HD5) (unhide HBX5).2 0 _ 1024 c8 Bn (unhide HLB).symm (fun _ => ⟨_, 0, rfl, unhide HF5, unhide HR5⟩) (by show (0 : Nat) ≤ _; decide) (0, ⟨[A], [(0, Bn)], false, -1⟩) (Dk.write_ok (d := ⟨[A], [], false, -1⟩) (n := 0) rfl (by show (-1 : Int) < 0; decide) (by show 0 < 1; decide) (unhide HLB))).mono ?_
  rintro e w9 ⟨rfl, F9, hd, hu, hs⟩
  have HD9 := hide hd
  have HBX9 : Hid (Below B u w9 ∧ B2 ≤ w9.heap.size) := ⟨(unhide HBX5).1.trans (hu.below (unhide HLe _ (unhide HBX5).1) (fun k hk => Nat.le_trans (unhide HGE) ((unhide HD5).ge k hk).1)), Nat.le_trans (unhide HBX5).2 hu.size⟩
  clear hd hu hs HD5 HBX5 HR5 HF5 hcv w8
  go_wp2_with fail
  have hbk : Below w9.heap.size w9 (w9.alloc (.cells #[.bool keep] 4)) := (Below.refl _ _).alloc (Nat.le_refl _) _
  have hck : (w9.alloc (.cells #[.bool keep] 4)).cell? ⟨w9.heap.size, 0, none⟩ = some (.bool keep) := cell_of_row _ _ 0 _ _ _ (heap_alloc_new _ _)
  have HD := hide ((unhide HD9).below hbk)
  have HF9 : Hid (w9.heap.size ∉ F9) := fun hx => by have := ((unhide HD9).ge _ hx).2; omega
  have HBX : Hid (Below B u (w9.alloc (.cells #[.bool keep] 4))) := (unhide HBX9).1.trans (hbk.mono (unhide HLe _ (unhide HBX9).1))
  generalize w9.alloc (.cells #[.bool keep] 4) = wa at *
  clear hbk HD9 HBX9
  refine (kCrash (unhide HD) (by show (1 : Nat) ≤ _; decide) (some ⟨w9.heap.size, 0, none⟩) [keep] 1 0 cut (fun _ => ⟨_, 0, rfl, unhide HF9, fun j hj => by
    obtain rfl : j = 0 := by simpa using hj
    exact hck⟩)).mono ?_
  rintro e w8 ⟨rfl, F8, hd, hu, hs⟩
  have HBB : Hid (Below B u w8) := (unhide HBX).trans (hu.below (unhide HLe _ (unhide HBX)) (fun k hk => Nat.le_trans (unhide HGE) ((unhide HD).ge k hk).1))
  have HDC := hide hd
  clear hd hu hs HD HBX HF9 hck wa
  by_cases h0 : cut ≤ 0
  · have hm : (min (max cut 0) 128).toNat * 8 = 0 := by omega
    have hd := unhide HDC
    rw [crash0 Bn A keep cut 0 hm] at hd
    have HD := hide hd
    have hs1 : ∀ W, (Instr.sliceAt 9 (.string SB) none (some (.int .i64 0)) none).run Try.prog W = .ok (.string ⟨(Bn.take 0).toArray⟩) W := by rw [(unhide HSB).1]; exact sl_to Bn 0 (by rw [unhide HLB]; omega)
    have hs2 : ∀ W, (Instr.sliceAt 9 (.string SA) (some (.int .i64 0)) none none).run Try.prog W = .ok (.string ⟨(A.drop 0).toArray⟩) W := by rw [(unhide HSA).1]; exact sl_from A 0 (by rw [unhide HLA]; omega)
    have hsum : (⟨(Bn.take 0).toArray⟩ : ByteArray).size + (⟨(A.drop 0).toArray⟩ : ByteArray).size ≤ 9223372036854775807 := by rw [size_mk, size_mk, List.length_take, List.length_drop, unhide HLB, unhide HLA]; omega
    have HEQ : Hid ((⟨(Bn.take 0 ++ A.drop 0).toArray⟩ : ByteArray) = ⟨(Bn.take 0).toArray⟩ ++ ⟨(A.drop 0).toArray⟩) := ba_append _ _
    generalize (⟨(Bn.take 0).toArray⟩ : ByteArray) = B1 at *
    generalize (⟨(A.drop 0).toArray⟩ : ByteArray) = A1 at *
    clear hm hd HDC
    go_wp2_with fail
    refine (kDurableD (unhide HD)).mono ?_
    rintro e w9 ⟨rfl, hx, hb, hs⟩
    obtain ⟨LB, hLB⟩ : ∃ LB, LB = w8.heap.size := ⟨_, rfl⟩
    rw [← hLB] at hx
    have hl0 : w9.cell? ⟨LB, 0, none⟩ = some (.string (B1 ++ A1)) := by rw [cell_of_row w9 LB 0 _ _ _ hx]; exact congrArg (fun z => some (Value.string z)) (unhide HEQ)
    have HB9 : Hid (Below B u w9) := (unhide HBB).trans (hb.mono (unhide HLe _ (unhide HBB)))
    have hll : ([Bn.take 0 ++ A.drop 0] : List (List UInt8)).length = 1 := rfl
    rw [hll, ← hLB]
    clear hx hb hs hLB hll
    go_wp2_with fail
    refine wp_region_last (fun u' => u'.cell? ⟨LB, 0, none⟩ = some (.string (B1 ++ A1)) ∧ Below B u u') 16 (by kernel_rfl) ⟨hl0, belowDrew (unhide HB9)⟩ fun hS => ?_
    refine wpAnyL_take 0 62 (.slice (some ⟨LB, 0, none⟩) 1 1) [] rfl rfl (by kernel_rfl) (by kernel_rfl) (by kernel_rfl) (by kernel_rfl) (by kernel_rfl) (fun _ _ _ h => h) (by rfl) (fun u _ => by go_simp) hS ?_
    simp only [Act.put, List.setIfInBounds_toArray, List.set_cons_zero, List.set_cons_succ]
    refine wpAnyL_take 1 63 (.int .i64 1) [] rfl rfl (by kernel_rfl) (by kernel_rfl) (by kernel_rfl) (by kernel_rfl) (by kernel_rfl) (fun _ _ _ h => h) (by rfl) (fun u _ => by go_simp) hS ?_
    simp only [Act.put, List.setIfInBounds_toArray, List.set_cons_zero, List.set_cons_succ]
    refine wpAnyL_take 2 64 (.bool true) [] rfl rfl (by kernel_rfl) (by kernel_rfl) (by kernel_rfl) (by kernel_rfl) (by kernel_rfl) (fun _ _ _ h => h) (by rfl) (fun u _ => by go_simp) hS ?_
    simp only [Act.put, List.setIfInBounds_toArray, List.set_cons_zero, List.set_cons_succ]
    refine wpAnyL_take 3 65 (.bool true) [] rfl rfl (by kernel_rfl) (by kernel_rfl) (by kernel_rfl) (by kernel_rfl) (by kernel_rfl) (fun _ _ _ h => h) (by rfl) (fun u _ => by go_simp) hS ?_
    simp only [Act.put, List.setIfInBounds_toArray, List.set_cons_zero, List.set_cons_succ]
    refine wpAnyL_take 4 66 (.slice (some ⟨LB, 0, none⟩) 1 1) [] rfl rfl (by kernel_rfl) (by kernel_rfl) (by kernel_rfl) (by kernel_rfl) (by kernel_rfl) (fun _ _ _ h => h) (by rfl) (fun u _ => by go_simp) hS ?_
    simp only [Act.put, List.setIfInBounds_toArray, List.set_cons_zero, List.set_cons_succ]
    refine wpAnyL_take 5 67 (.pointer (some ⟨LB, 0, none⟩)) [] rfl rfl (by kernel_rfl) (by kernel_rfl) (by kernel_rfl) (by kernel_rfl) (by kernel_rfl) (fun _ _ _ h => h) (by rfl) (fun u _ => by go_simp) hS ?_
    simp only [Act.put, List.setIfInBounds_toArray, List.set_cons_zero, List.set_cons_succ]
    refine wpAnyL_take 6 68 (.string (B1 ++ A1)) [] rfl rfl (by kernel_rfl) (by kernel_rfl) (by kernel_rfl) (by kernel_rfl) (by kernel_rfl) (fun _ _ _ h => h) (by rfl) (fun u hu => by obtain ⟨s1, s2⟩ := hu; go_simp) hS ?_
    simp only [Act.put, List.setIfInBounds_toArray, List.set_cons_zero, List.set_cons_succ]
    refine wpAnyL_take 7 69 (.string SB) [] rfl rfl (by kernel_rfl) (by kernel_rfl) (by kernel_rfl) (by kernel_rfl) (by kernel_rfl) (fun _ _ _ h => h) (by rfl) (fun u _ => by go_simp) hS ?_
    simp only [Act.put, List.setIfInBounds_toArray, List.set_cons_zero, List.set_cons_succ]
    refine wpAnyL_take 8 70 (.int .i64 0) [] rfl rfl (by kernel_rfl) (by kernel_rfl) (by kernel_rfl) (by kernel_rfl) (by kernel_rfl) (fun _ _ _ h => h) (by rfl) (fun u _ => by go_simp) hS ?_
    simp only [Act.put, List.setIfInBounds_toArray, List.set_cons_zero, List.set_cons_succ]
    refine wpAnyL_take 9 71 (.string B1) [] rfl rfl (by kernel_rfl) (by kernel_rfl) (by kernel_rfl) (by kernel_rfl) (by kernel_rfl) (fun _ _ _ h => h) (by rfl) (fun u _ => by go_simp) hS ?_
    simp only [Act.put, List.setIfInBounds_toArray, List.set_cons_zero, List.set_cons_succ]
    refine wpAnyL_take 10 72 (.string SA) [] rfl rfl (by kernel_rfl) (by kernel_rfl) (by kernel_rfl) (by kernel_rfl) (by kernel_rfl) (fun _ _ _ h => h) (by rfl) (fun u _ => by go_simp) hS ?_
    simp only [Act.put, List.setIfInBounds_toArray, List.set_cons_zero, List.set_cons_succ]
    refine wpAnyL_take 11 73 (.int .i64 0) [] rfl rfl (by kernel_rfl) (by kernel_rfl) (by kernel_rfl) (by kernel_rfl) (by kernel_rfl) (fun _ _ _ h => h) (by rfl) (fun u _ => by go_simp) hS ?_
    simp only [Act.put, List.setIfInBounds_toArray, List.set_cons_zero, List.set_cons_succ]
    refine wpAnyL_take 12 74 (.string A1) [] rfl rfl (by kernel_rfl) (by kernel_rfl) (by kernel_rfl) (by kernel_rfl) (by kernel_rfl) (fun _ _ _ h => h) (by rfl) (fun u _ => by go_simp) hS ?_
    simp only [Act.put, List.setIfInBounds_toArray, List.set_cons_zero, List.set_cons_succ]
    refine wpAnyL_take 13 75 (.string (B1 ++ A1)) [] rfl rfl (by kernel_rfl) (by kernel_rfl) (by kernel_rfl) (by kernel_rfl) (by kernel_rfl) (fun _ _ _ h => h) (by rfl) (fun u _ => by go_simp) hS ?_
    simp only [Act.put, List.setIfInBounds_toArray, List.set_cons_zero, List.set_cons_succ]
    refine wpAnyL_take 14 76 (.bool true) [] rfl rfl (by kernel_rfl) (by kernel_rfl) (by kernel_rfl) (by kernel_rfl) (by kernel_rfl) (fun _ _ _ h => h) (by rfl) (fun u _ => by go_simp) hS ?_
    simp only [Act.put, List.setIfInBounds_toArray, List.set_cons_zero, List.set_cons_succ]
    refine wpAnyL_take 15 77 (.bool true) [] rfl rfl (by kernel_rfl) (by kernel_rfl) (by kernel_rfl) (by kernel_rfl) (by kernel_rfl) (fun _ _ _ h => h) (by rfl) (fun u _ => by go_simp) hS ?_
    simp only [Act.put, List.setIfInBounds_toArray, List.set_cons_zero, List.set_cons_succ]
    refine wpAnyL_one (i := 16) (by kernel_rfl) rfl (by rfl) fun K hK => ?_
    refine wp_val (.bool true) (by go_simp) (some 8) (by rfl) ?_
    refine hK _ _ (fun h => absurd rfl h) ?_
    clear hK K
    simp only [Act.put, List.setIfInBounds_toArray, List.set_cons_zero, List.set_cons_succ]
    refine wpAnyL_done (by kernel_rfl) ?_ _
    go_wp2
    go_ret
    exact ⟨rfl, hS.2⟩
  · by_cases h1 : cut < 128
    · obtain ⟨m, hmm⟩ : ∃ m : Nat, m = cut.toNat * 8 := ⟨_, rfl⟩
      have e8 : (8 * cut : Int) = (m : Int) := by omega
      
      have hm : (min (max cut 0) 128).toNat * 8 = m := by omega
      have hd := unhide HDC
      rw [crash0 Bn A keep cut m hm] at hd
      have HD := hide hd
      have hs1 : ∀ W, (Instr.sliceAt 9 (.string SB) none (some (.int .i64 (8 * cut))) none).run Try.prog W = .ok (.string ⟨(Bn.take m).toArray⟩) W := by rw [e8, (unhide HSB).1]; exact sl_to Bn m (by rw [unhide HLB]; omega)
      have hs2 : ∀ W, (Instr.sliceAt 9 (.string SA) (some (.int .i64 (8 * cut))) none none).run Try.prog W = .ok (.string ⟨(A.drop m).toArray⟩) W := by rw [e8, (unhide HSA).1]; exact sl_from A m (by rw [unhide HLA]; omega)
      have hsum : (⟨(Bn.take m).toArray⟩ : ByteArray).size + (⟨(A.drop m).toArray⟩ : ByteArray).size ≤ 9223372036854775807 := by rw [size_mk, size_mk, List.length_take, List.length_drop, unhide HLB, unhide HLA]; omega
      have HEQ : Hid ((⟨(Bn.take m ++ A.drop m).toArray⟩ : ByteArray) = ⟨(Bn.take m).toArray⟩ ++ ⟨(A.drop m).toArray⟩) := ba_append _ _
      generalize (⟨(Bn.take m).toArray⟩ : ByteArray) = B1 at *
      generalize (⟨(A.drop m).toArray⟩ : ByteArray) = A1 at *
      clear hm hd HDC hmm e8
      go_wp2_with fail
      refine (kDurableD (unhide HD)).mono ?_
      rintro e w9 ⟨rfl, hx, hb, hs⟩
      obtain ⟨LB, hLB⟩ : ∃ LB, LB = w8.heap.size := ⟨_, rfl⟩
      rw [← hLB] at hx
      have hl0 : w9.cell? ⟨LB, 0, none⟩ = some (.string (B1 ++ A1)) := by rw [cell_of_row w9 LB 0 _ _ _ hx]; exact congrArg (fun z => some (Value.string z)) (unhide HEQ)
      have HB9 : Hid (Below B u w9) := (unhide HBB).trans (hb.mono (unhide HLe _ (unhide HBB)))
      have hll : ([Bn.take m ++ A.drop m] : List (List UInt8)).length = 1 := rfl
      rw [hll, ← hLB]
      clear hx hb hs hLB hll
      go_wp2_with fail
      refine wp_region_last (fun u' => u'.cell? ⟨LB, 0, none⟩ = some (.string (B1 ++ A1)) ∧ Below B u u') 16 (by kernel_rfl) ⟨hl0, belowDrew (unhide HB9)⟩ fun hS => ?_
      refine wpAnyL_take 0 62 (.slice (some ⟨LB, 0, none⟩) 1 1) [] rfl rfl (by kernel_rfl) (by kernel_rfl) (by kernel_rfl) (by kernel_rfl) (by kernel_rfl) (fun _ _ _ h => h) (by rfl) (fun u _ => by go_simp) hS ?_
      simp only [Act.put, List.setIfInBounds_toArray, List.set_cons_zero, List.set_cons_succ]
      refine wpAnyL_take 1 63 (.int .i64 1) [] rfl rfl (by kernel_rfl) (by kernel_rfl) (by kernel_rfl) (by kernel_rfl) (by kernel_rfl) (fun _ _ _ h => h) (by rfl) (fun u _ => by go_simp) hS ?_
      simp only [Act.put, List.setIfInBounds_toArray, List.set_cons_zero, List.set_cons_succ]
      refine wpAnyL_take 2 64 (.bool true) [] rfl rfl (by kernel_rfl) (by kernel_rfl) (by kernel_rfl) (by kernel_rfl) (by kernel_rfl) (fun _ _ _ h => h) (by rfl) (fun u _ => by go_simp) hS ?_
      simp only [Act.put, List.setIfInBounds_toArray, List.set_cons_zero, List.set_cons_succ]
      refine wpAnyL_take 3 65 (.bool true) [] rfl rfl (by kernel_rfl) (by kernel_rfl) (by kernel_rfl) (by kernel_rfl) (by kernel_rfl) (fun _ _ _ h => h) (by rfl) (fun u _ => by go_simp) hS ?_
      simp only [Act.put, List.setIfInBounds_toArray, List.set_cons_zero, List.set_cons_succ]
      refine wpAnyL_take 4 66 (.slice (some ⟨LB, 0, none⟩) 1 1) [] rfl rfl (by kernel_rfl) (by kernel_rfl) (by kernel_rfl) (by kernel_rfl) (by kernel_rfl) (fun _ _ _ h => h) (by rfl) (fun u _ => by go_simp) hS ?_
      simp only [Act.put, List.setIfInBounds_toArray, List.set_cons_zero, List.set_cons_succ]
      refine wpAnyL_take 5 67 (.pointer (some ⟨LB, 0, none⟩)) [] rfl rfl (by kernel_rfl) (by kernel_rfl) (by kernel_rfl) (by kernel_rfl) (by kernel_rfl) (fun _ _ _ h => h) (by rfl) (fun u _ => by go_simp) hS ?_
      simp only [Act.put, List.setIfInBounds_toArray, List.set_cons_zero, List.set_cons_succ]
      refine wpAnyL_take 6 68 (.string (B1 ++ A1)) [] rfl rfl (by kernel_rfl) (by kernel_rfl) (by kernel_rfl) (by kernel_rfl) (by kernel_rfl) (fun _ _ _ h => h) (by rfl) (fun u hu => by obtain ⟨s1, s2⟩ := hu; go_simp) hS ?_
      simp only [Act.put, List.setIfInBounds_toArray, List.set_cons_zero, List.set_cons_succ]
      refine wpAnyL_take 7 69 (.string SB) [] rfl rfl (by kernel_rfl) (by kernel_rfl) (by kernel_rfl) (by kernel_rfl) (by kernel_rfl) (fun _ _ _ h => h) (by rfl) (fun u _ => by go_simp) hS ?_
      simp only [Act.put, List.setIfInBounds_toArray, List.set_cons_zero, List.set_cons_succ]
      refine wpAnyL_take 8 70 (.int .i64 (8 * cut)) [] rfl rfl (by kernel_rfl) (by kernel_rfl) (by kernel_rfl) (by kernel_rfl) (by kernel_rfl) (fun _ _ _ h => h) (by rfl) (fun u _ => by go_simp) hS ?_
      simp only [Act.put, List.setIfInBounds_toArray, List.set_cons_zero, List.set_cons_succ]
      refine wpAnyL_take 9 71 (.string B1) [] rfl rfl (by kernel_rfl) (by kernel_rfl) (by kernel_rfl) (by kernel_rfl) (by kernel_rfl) (fun _ _ _ h => h) (by rfl) (fun u _ => by go_simp) hS ?_
      simp only [Act.put, List.setIfInBounds_toArray, List.set_cons_zero, List.set_cons_succ]
      refine wpAnyL_take 10 72 (.string SA) [] rfl rfl (by kernel_rfl) (by kernel_rfl) (by kernel_rfl) (by kernel_rfl) (by kernel_rfl) (fun _ _ _ h => h) (by rfl) (fun u _ => by go_simp) hS ?_
      simp only [Act.put, List.setIfInBounds_toArray, List.set_cons_zero, List.set_cons_succ]
      refine wpAnyL_take 11 73 (.int .i64 (8 * cut)) [] rfl rfl (by kernel_rfl) (by kernel_rfl) (by kernel_rfl) (by kernel_rfl) (by kernel_rfl) (fun _ _ _ h => h) (by rfl) (fun u _ => by go_simp) hS ?_
      simp only [Act.put, List.setIfInBounds_toArray, List.set_cons_zero, List.set_cons_succ]
      refine wpAnyL_take 12 74 (.string A1) [] rfl rfl (by kernel_rfl) (by kernel_rfl) (by kernel_rfl) (by kernel_rfl) (by kernel_rfl) (fun _ _ _ h => h) (by rfl) (fun u _ => by go_simp) hS ?_
      simp only [Act.put, List.setIfInBounds_toArray, List.set_cons_zero, List.set_cons_succ]
      refine wpAnyL_take 13 75 (.string (B1 ++ A1)) [] rfl rfl (by kernel_rfl) (by kernel_rfl) (by kernel_rfl) (by kernel_rfl) (by kernel_rfl) (fun _ _ _ h => h) (by rfl) (fun u _ => by go_simp) hS ?_
      simp only [Act.put, List.setIfInBounds_toArray, List.set_cons_zero, List.set_cons_succ]
      refine wpAnyL_take 14 76 (.bool true) [] rfl rfl (by kernel_rfl) (by kernel_rfl) (by kernel_rfl) (by kernel_rfl) (by kernel_rfl) (fun _ _ _ h => h) (by rfl) (fun u _ => by go_simp) hS ?_
      simp only [Act.put, List.setIfInBounds_toArray, List.set_cons_zero, List.set_cons_succ]
      refine wpAnyL_take 15 77 (.bool true) [] rfl rfl (by kernel_rfl) (by kernel_rfl) (by kernel_rfl) (by kernel_rfl) (by kernel_rfl) (fun _ _ _ h => h) (by rfl) (fun u _ => by go_simp) hS ?_
      simp only [Act.put, List.setIfInBounds_toArray, List.set_cons_zero, List.set_cons_succ]
      refine wpAnyL_one (i := 16) (by kernel_rfl) rfl (by rfl) fun K hK => ?_
      refine wp_val (.bool true) (by go_simp) (some 8) (by rfl) ?_
      refine hK _ _ (fun h => absurd rfl h) ?_
      clear hK K
      simp only [Act.put, List.setIfInBounds_toArray, List.set_cons_zero, List.set_cons_succ]
      refine wpAnyL_done (by kernel_rfl) ?_ _
      go_wp2
      go_ret
      exact ⟨rfl, hS.2⟩
    · have hm : (min (max cut 0) 128).toNat * 8 = 1024 := by omega
      have hd := unhide HDC
      rw [crash0 Bn A keep cut 1024 hm] at hd
      have HD := hide hd
      have hs1 : ∀ W, (Instr.sliceAt 9 (.string SB) none (some (.int .i64 1024)) none).run Try.prog W = .ok (.string ⟨(Bn.take 1024).toArray⟩) W := by rw [(unhide HSB).1]; exact sl_to Bn 1024 (by rw [unhide HLB]; omega)
      have hs2 : ∀ W, (Instr.sliceAt 9 (.string SA) (some (.int .i64 1024)) none none).run Try.prog W = .ok (.string ⟨(A.drop 1024).toArray⟩) W := by rw [(unhide HSA).1]; exact sl_from A 1024 (by rw [unhide HLA]; omega)
      have hsum : (⟨(Bn.take 1024).toArray⟩ : ByteArray).size + (⟨(A.drop 1024).toArray⟩ : ByteArray).size ≤ 9223372036854775807 := by rw [size_mk, size_mk, List.length_take, List.length_drop, unhide HLB, unhide HLA]; omega
      have HEQ : Hid ((⟨(Bn.take 1024 ++ A.drop 1024).toArray⟩ : ByteArray) = ⟨(Bn.take 1024).toArray⟩ ++ ⟨(A.drop 1024).toArray⟩) := ba_append _ _
      generalize (⟨(Bn.take 1024).toArray⟩ : ByteArray) = B1 at *
      generalize (⟨(A.drop 1024).toArray⟩ : ByteArray) = A1 at *
      clear hm hd HDC
      go_wp2_with fail
      refine (kDurableD (unhide HD)).mono ?_
      rintro e w9 ⟨rfl, hx, hb, hs⟩
      obtain ⟨LB, hLB⟩ : ∃ LB, LB = w8.heap.size := ⟨_, rfl⟩
      rw [← hLB] at hx
      have hl0 : w9.cell? ⟨LB, 0, none⟩ = some (.string (B1 ++ A1)) := by rw [cell_of_row w9 LB 0 _ _ _ hx]; exact congrArg (fun z => some (Value.string z)) (unhide HEQ)
      have HB9 : Hid (Below B u w9) := (unhide HBB).trans (hb.mono (unhide HLe _ (unhide HBB)))
      have hll : ([Bn.take 1024 ++ A.drop 1024] : List (List UInt8)).length = 1 := rfl
      rw [hll, ← hLB]
      clear hx hb hs hLB hll
      go_wp2_with fail
      refine wp_region_last (fun u' => u'.cell? ⟨LB, 0, none⟩ = some (.string (B1 ++ A1)) ∧ Below B u u') 16 (by kernel_rfl) ⟨hl0, belowDrew (unhide HB9)⟩ fun hS => ?_
      refine wpAnyL_take 0 62 (.slice (some ⟨LB, 0, none⟩) 1 1) [] rfl rfl (by kernel_rfl) (by kernel_rfl) (by kernel_rfl) (by kernel_rfl) (by kernel_rfl) (fun _ _ _ h => h) (by rfl) (fun u _ => by go_simp) hS ?_
      simp only [Act.put, List.setIfInBounds_toArray, List.set_cons_zero, List.set_cons_succ]
      refine wpAnyL_take 1 63 (.int .i64 1) [] rfl rfl (by kernel_rfl) (by kernel_rfl) (by kernel_rfl) (by kernel_rfl) (by kernel_rfl) (fun _ _ _ h => h) (by rfl) (fun u _ => by go_simp) hS ?_
      simp only [Act.put, List.setIfInBounds_toArray, List.set_cons_zero, List.set_cons_succ]
      refine wpAnyL_take 2 64 (.bool true) [] rfl rfl (by kernel_rfl) (by kernel_rfl) (by kernel_rfl) (by kernel_rfl) (by kernel_rfl) (fun _ _ _ h => h) (by rfl) (fun u _ => by go_simp) hS ?_
      simp only [Act.put, List.setIfInBounds_toArray, List.set_cons_zero, List.set_cons_succ]
      refine wpAnyL_take 3 65 (.bool true) [] rfl rfl (by kernel_rfl) (by kernel_rfl) (by kernel_rfl) (by kernel_rfl) (by kernel_rfl) (fun _ _ _ h => h) (by rfl) (fun u _ => by go_simp) hS ?_
      simp only [Act.put, List.setIfInBounds_toArray, List.set_cons_zero, List.set_cons_succ]
      refine wpAnyL_take 4 66 (.slice (some ⟨LB, 0, none⟩) 1 1) [] rfl rfl (by kernel_rfl) (by kernel_rfl) (by kernel_rfl) (by kernel_rfl) (by kernel_rfl) (fun _ _ _ h => h) (by rfl) (fun u _ => by go_simp) hS ?_
      simp only [Act.put, List.setIfInBounds_toArray, List.set_cons_zero, List.set_cons_succ]
      refine wpAnyL_take 5 67 (.pointer (some ⟨LB, 0, none⟩)) [] rfl rfl (by kernel_rfl) (by kernel_rfl) (by kernel_rfl) (by kernel_rfl) (by kernel_rfl) (fun _ _ _ h => h) (by rfl) (fun u _ => by go_simp) hS ?_
      simp only [Act.put, List.setIfInBounds_toArray, List.set_cons_zero, List.set_cons_succ]
      refine wpAnyL_take 6 68 (.string (B1 ++ A1)) [] rfl rfl (by kernel_rfl) (by kernel_rfl) (by kernel_rfl) (by kernel_rfl) (by kernel_rfl) (fun _ _ _ h => h) (by rfl) (fun u hu => by obtain ⟨s1, s2⟩ := hu; go_simp) hS ?_
      simp only [Act.put, List.setIfInBounds_toArray, List.set_cons_zero, List.set_cons_succ]
      refine wpAnyL_take 7 69 (.string SB) [] rfl rfl (by kernel_rfl) (by kernel_rfl) (by kernel_rfl) (by kernel_rfl) (by kernel_rfl) (fun _ _ _ h => h) (by rfl) (fun u _ => by go_simp) hS ?_
      simp only [Act.put, List.setIfInBounds_toArray, List.set_cons_zero, List.set_cons_succ]
      refine wpAnyL_take 8 70 (.int .i64 1024) [] rfl rfl (by kernel_rfl) (by kernel_rfl) (by kernel_rfl) (by kernel_rfl) (by kernel_rfl) (fun _ _ _ h => h) (by rfl) (fun u _ => by go_simp) hS ?_
      simp only [Act.put, List.setIfInBounds_toArray, List.set_cons_zero, List.set_cons_succ]
      refine wpAnyL_take 9 71 (.string B1) [] rfl rfl (by kernel_rfl) (by kernel_rfl) (by kernel_rfl) (by kernel_rfl) (by kernel_rfl) (fun _ _ _ h => h) (by rfl) (fun u _ => by go_simp) hS ?_
      simp only [Act.put, List.setIfInBounds_toArray, List.set_cons_zero, List.set_cons_succ]
      refine wpAnyL_take 10 72 (.string SA) [] rfl rfl (by kernel_rfl) (by kernel_rfl) (by kernel_rfl) (by kernel_rfl) (by kernel_rfl) (fun _ _ _ h => h) (by rfl) (fun u _ => by go_simp) hS ?_
      simp only [Act.put, List.setIfInBounds_toArray, List.set_cons_zero, List.set_cons_succ]
      refine wpAnyL_take 11 73 (.int .i64 1024) [] rfl rfl (by kernel_rfl) (by kernel_rfl) (by kernel_rfl) (by kernel_rfl) (by kernel_rfl) (fun _ _ _ h => h) (by rfl) (fun u _ => by go_simp) hS ?_
      simp only [Act.put, List.setIfInBounds_toArray, List.set_cons_zero, List.set_cons_succ]
      refine wpAnyL_take 12 74 (.string A1) [] rfl rfl (by kernel_rfl) (by kernel_rfl) (by kernel_rfl) (by kernel_rfl) (by kernel_rfl) (fun _ _ _ h => h) (by rfl) (fun u _ => by go_simp) hS ?_
      simp only [Act.put, List.setIfInBounds_toArray, List.set_cons_zero, List.set_cons_succ]
      refine wpAnyL_take 13 75 (.string (B1 ++ A1)) [] rfl rfl (by kernel_rfl) (by kernel_rfl) (by kernel_rfl) (by kernel_rfl) (by kernel_rfl) (fun _ _ _ h => h) (by rfl) (fun u _ => by go_simp) hS ?_
      simp only [Act.put, List.setIfInBounds_toArray, List.set_cons_zero, List.set_cons_succ]
      refine wpAnyL_take 14 76 (.bool true) [] rfl rfl (by kernel_rfl) (by kernel_rfl) (by kernel_rfl) (by kernel_rfl) (by kernel_rfl) (fun _ _ _ h => h) (by rfl) (fun u _ => by go_simp) hS ?_
      simp only [Act.put, List.setIfInBounds_toArray, List.set_cons_zero, List.set_cons_succ]
      refine wpAnyL_take 15 77 (.bool true) [] rfl rfl (by kernel_rfl) (by kernel_rfl) (by kernel_rfl) (by kernel_rfl) (by kernel_rfl) (fun _ _ _ h => h) (by rfl) (fun u _ => by go_simp) hS ?_
      simp only [Act.put, List.setIfInBounds_toArray, List.set_cons_zero, List.set_cons_succ]
      refine wpAnyL_one (i := 16) (by kernel_rfl) rfl (by rfl) fun K hK => ?_
      refine wp_val (.bool true) (by go_simp) (some 8) (by rfl) ?_
      refine hK _ _ (fun h => absurd rfl h) ?_
      clear hK K
      simp only [Act.put, List.setIfInBounds_toArray, List.set_cons_zero, List.set_cons_succ]
      refine wpAnyL_done (by kernel_rfl) ?_ _
      go_wp2
      go_ret
      exact ⟨rfl, hS.2⟩
end Go.Proofs.Ytfdibmbffmgikaa
