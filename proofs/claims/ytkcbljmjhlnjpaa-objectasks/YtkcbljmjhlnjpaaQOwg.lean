/- Objects, the document's side: Sum; Entry on both sides. -/
import Derived.Test.YtkcbljmjhlnjpaaQOwf
namespace Go.Proofs.Ytkcbljmjhlnjpaa
open Go.RowKit Go.Lib
theorem cutR_in {s : ByteArray} {n : Int} (h : 1 ≤ n ∧ n ≤ 32) : cutR s n = (D.cutS s n.toNat, 0) := by unfold cutR; rw [if_pos h]
theorem cutR_out {s : ByteArray} {n : Int} (h : ¬ (1 ≤ n ∧ n ≤ 32)) : cutR s n = (eB, 1) := by unfold cutR; rw [if_neg h]
set_option maxRecDepth 100000 in
set_option maxHeartbeats 4000000 in
theorem qSum {u : World} {o : Ot} {v : Sv} {n m : Nat} (h : Sx u o.st v n m) (wd : Int) (x : ByteArray) (r : Int) (hx : sumV o wd = (x, r)) : Calls Try.prog 39 #[obV o.key v n m, .int .i64 wd] u fun e u' => e = .returned (.tuple #[.string x, .int .i64 r]) ∧ Below u.heap.size u u' := by
  obtain ⟨N, hN⟩ : ∃ N, N = u.heap.size := ⟨_, rfl⟩
  have HN := hide hN
  have HU : Hid (∀ G : World, Below N u G → Sx G o.st v n m) := fun G hG => h.below (by rw [← unhide HN]; exact hG)
  rw [← hN]
  clear hN h
  obtain ⟨fb, fr, hf⟩ : ∃ fb fr, formV o = (fb, fr) := ⟨_, _, rfl⟩
  have HFM : Hid (∀ G : World, Sx G o.st v n m → Calls Try.prog 38 #[obV o.key v n m] G fun e u' => e = .returned (.tuple #[.string fb, .int .i64 fr]) ∧ Below G.heap.size G u') := fun G hG => qForm hG _ _ hf
  by_cases hc : ckE o = 0
  · have hp : formV o = (formB o, 0) := by unfold formV; rw [if_pos hc]
    rw [hf] at hp
    obtain ⟨hfb, hfr⟩ := Prod.mk.inj hp
    subst hfr
    by_cases hw : 1 ≤ wd ∧ wd ≤ 32
    · have hw1 : ¬ wd < 1 := by omega
      have hw2 : ¬ wd > 32 := by omega
      by_cases h0 : o.st.seen.length = 0
      · have hs : sumV o wd = (eB, 0) := by unfold sumV; rw [if_pos hc, if_pos h0, cutR_in hw]
        rw [form_none h0] at hfb
        rw [hs] at hx
        cases hx
        subst hfb
        clear hf hp hc h0 hs
        unfold eB at HFM
        go_enter Try.func39, Try.ntmps39
        go_wp2_with (first
          | ((with_reducible refine wpList_box_ob (by rfl) (.tmp 0) (by rfl) (some 2) (by rfl) N (unhide HN) o.key v n m (by with_unfolding_all rfl) ?_); intro W1 HX1 HBU HS1; simp only [Act.put, List.setIfInBounds_toArray, List.set_cons_zero, List.set_cons_succ]; obtain ⟨c0, c1, c2⟩ := ob_cells (unhide HX1))
          | (go_at_call 38; refine (unhide HFM _ (unhide HU _ (unhide HBU))).mono ?_; rintro e W3 ⟨rfl, hb⟩; clear c0 c1 c2; replace HBU : Hid (Below N u W3) := (unhide HBU).trans (hb.mono (by rw [unhide HS1]; omega)); clear hb)
          | fail)
        go_ret2
        exact ⟨rfl, unhide HBU⟩
      · have hs : sumV o wd = (D.cutS (formB o) wd.toNat, 0) := by unfold sumV; rw [if_pos hc, if_neg h0, cutR_in hw]
        rw [← hfb] at hs
        have hsz : fb.size ≤ 140737488351232 := by rw [hfb]; exact Nat.le_trans (form_small hc).2.2 (by decide)
        have hne0 : ¬ fb = ⟨#[]⟩ := by
          intro h1
          rw [hfb, form_some h0] at h1
          have h2 := congrArg ByteArray.size h1
          have h3 : (⟨(79 :: (textB o.key ++ stB o.st)).toArray⟩ : ByteArray).size = (79 :: (textB o.key ++ stB o.st)).length := List.size_toArray
          rw [h3] at h2
          exact absurd h2 (Nat.succ_ne_zero _)
        have hE : (⟨#[]⟩ : ByteArray).toList = [] := by decide +kernel
        have hne1 : ¬ fb.toList = [] := fun h => hne0 (ba_list (h.trans hE.symm))
        have hne2 : (fb.toList == ([] : List UInt8)) = false := by rw [beq_eq_false_iff_ne]; exact hne1
        have hne3 : (fb.toList == (⟨#[]⟩ : ByteArray).toList) = false := by rw [hE]; exact hne2
        clear hE
        rw [hs] at hx
        cases hx
        obtain ⟨k, rfl⟩ := Int.eq_ofNat_of_zero_le (by omega : 0 ≤ wd)
        have hk : k ≤ 32 := by omega
        have HO := hide (fun G => D.mOf fb hsz G)
        have hsi := D.ofCells_info fb.data.toList
        have HKL : Hid (((D.Sha.of fb.data.toList).take k).length = k) := by show _ = _; rw [List.length_take, D.Sha.of_length]; omega
        have HRES : Hid ((⟨((D.Sha.of fb.data.toList).take k).toArray⟩ : ByteArray) = D.cutS fb (Int.ofNat k).toNat) := rfl
        clear hf hp hc h0 hs hsz hfb
        go_enter Try.func39, Try.ntmps39
        go_wp2_with (first
          | ((with_reducible refine wpList_box_ob (by rfl) (.tmp 0) (by rfl) (some 2) (by rfl) N (unhide HN) o.key v n m (by with_unfolding_all rfl) ?_); intro W1 HX1 HBU HS1; simp only [Act.put, List.setIfInBounds_toArray, List.set_cons_zero, List.set_cons_succ]; obtain ⟨c0, c1, c2⟩ := ob_cells (unhide HX1))
          | (go_at_call 38; refine (unhide HFM _ (unhide HU _ (unhide HBU))).mono ?_; rintro e W3 ⟨rfl, hb⟩; clear c0 c1 c2; replace HBU : Hid (Below N u W3) := (unhide HBU).trans (hb.mono (by rw [unhide HS1]; omega)); have HNS : Hid (N ≤ W3.heap.size) := Nat.le_trans (by rw [unhide HS1]; omega) hb.size; clear hb)
          | (go_at_call 70; refine (unhide HO _).mono ?_; rintro e W4 ⟨rfl, hb⟩; replace HBU : Hid (Below N u W4) := (unhide HBU).trans (hb.mono (unhide HNS)); replace HNS : Hid (N ≤ W4.heap.size) := Nat.le_trans (unhide HNS) hb.size; clear hb; obtain ⟨M, hM⟩ : ∃ M, M = W4.heap.size := ⟨_, rfl⟩; have HM := hide hM; clear hM; have hsl := D.slSumTo M k hk)
          | (refine wpList_alloc_row (by rfl) 96 (by rfl) (some 8) (by rfl) M (unhide HM).symm D.Z32 D.zeroS ?_; intro W5 HR5 HB5 HS5; simp only [Act.put, List.setIfInBounds_toArray, List.set_cons_zero, List.set_cons_succ])
          | (refine D.wpList_store_u1 rfl 96 (.tmp 8) (.tmp 26) rfl M (D.ofCells fb.data.toList) rfl rfl 96 D.Z32 (unhide HR5) hsi (by rw [D.ofCells_size]; rfl) (D.ofCells_one _) ?_; intro W6 HR6 HU6; have hcv := D.conv_front (unhide HR6) ((D.Sha.of fb.data.toList).take k) k 32 (unhide HKL) (D.ofCells_take _ _))
          | fail)
        go_ret2
        exact ⟨rfl, ((unhide HBU).trans ((unhide HB5).mono (by rw [unhide HM]; exact unhide HNS))).trans ((unhide HU6).toBelow (by have := unhide HS5; have := unhide HNS; have := unhide HM; omega) (by have := unhide HNS; have := unhide HM; omega))⟩
    · have hs : sumV o wd = (eB, 1) := by
        unfold sumV; rw [if_pos hc, cutR_out hw, cutR_out hw]; split <;> rfl
      rw [hs] at hx
      cases hx
      clear hf hp hc hs hfb
      by_cases hw1 : wd < 1
      · go_enter Try.func39, Try.ntmps39
        go_wp2_with (first
          | ((with_reducible refine wpList_box_ob (by rfl) (.tmp 0) (by rfl) (some 2) (by rfl) N (unhide HN) o.key v n m (by with_unfolding_all rfl) ?_); intro W1 HX1 HBU HS1; simp only [Act.put, List.setIfInBounds_toArray, List.set_cons_zero, List.set_cons_succ]; obtain ⟨c0, c1, c2⟩ := ob_cells (unhide HX1))
          | (go_at_call 38; refine (unhide HFM _ (unhide HU _ (unhide HBU))).mono ?_; rintro e W3 ⟨rfl, hb⟩; clear c0 c1 c2; replace HBU : Hid (Below N u W3) := (unhide HBU).trans (hb.mono (by rw [unhide HS1]; omega)); clear hb)
          | fail)
        go_ret2
        exact ⟨rfl, unhide HBU⟩
      · have hw2 : wd > 32 := by omega
        clear hw
        go_enter Try.func39, Try.ntmps39
        go_wp2_with (first
          | ((with_reducible refine wpList_box_ob (by rfl) (.tmp 0) (by rfl) (some 2) (by rfl) N (unhide HN) o.key v n m (by with_unfolding_all rfl) ?_); intro W1 HX1 HBU HS1; simp only [Act.put, List.setIfInBounds_toArray, List.set_cons_zero, List.set_cons_succ]; obtain ⟨c0, c1, c2⟩ := ob_cells (unhide HX1))
          | (go_at_call 38; refine (unhide HFM _ (unhide HU _ (unhide HBU))).mono ?_; rintro e W3 ⟨rfl, hb⟩; clear c0 c1 c2; replace HBU : Hid (Below N u W3) := (unhide HBU).trans (hb.mono (by rw [unhide HS1]; omega)); clear hb)
          | fail)
        go_ret2
        exact ⟨rfl, unhide HBU⟩
  · have hp : formV o = (eB, ckE o) := by unfold formV; rw [if_neg hc]
    have hs : sumV o wd = (eB, ckE o) := by unfold sumV; rw [if_neg hc]
    rw [hf] at hp
    obtain ⟨hfb, hfr⟩ := Prod.mk.inj hp
    rw [hs, ← hfr] at hx
    rw [← hfr] at hc
    cases hx
    have hcb : (r == 0) = false := by simpa using hc
    clear hf hp hs hfb hfr
    go_enter Try.func39, Try.ntmps39
    go_wp2_with (first
      | ((with_reducible refine wpList_box_ob (by rfl) (.tmp 0) (by rfl) (some 2) (by rfl) N (unhide HN) o.key v n m (by with_unfolding_all rfl) ?_); intro W1 HX1 HBU HS1; simp only [Act.put, List.setIfInBounds_toArray, List.set_cons_zero, List.set_cons_succ]; obtain ⟨c0, c1, c2⟩ := ob_cells (unhide HX1))
      | (go_at_call 38; refine (unhide HFM _ (unhide HU _ (unhide HBU))).mono ?_; rintro e W3 ⟨rfl, hb⟩; clear c0 c1 c2; replace HBU : Hid (Below N u W3) := (unhide HBU).trans (hb.mono (by rw [unhide HS1]; omega)); clear hb)
      | fail)
    go_ret2
    exact ⟨rfl, unhide HBU⟩
end Go.Proofs.Ytkcbljmjhlnjpaa
