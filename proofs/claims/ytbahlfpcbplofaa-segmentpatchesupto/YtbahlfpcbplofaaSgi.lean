/- Segments: Form and Sum of both sides. Written by mksgi.py. -/
import Derived.Test.YtbahlfpcbplofaaSgh
namespace Go.Proofs.Ytbahlfpcbplofaa.S
open Go.RowKit Go.Lib
theorem formB_size {x : Nat} {l : List En} (hs : Short l) (hm : l.length ≤ 1099511627776) : (formB x l).size ≤ 140737488351232 := by
  have e : (formB x l).size = (formL x l).length := List.size_toArray
  have h1 := ensB_len l hs
  have h2 := uintB_len l.length
  rw [e]
  unfold formL
  simp only [List.length_cons, List.length_append, W.fixB_length]
  omega
set_option maxRecDepth 100000 in
set_option maxHeartbeats 1000000 in
theorem sForm (x : Int) (l : List En) (ao : Option Addr) (n c : Nat) (u : World) (h : El u l ao n c) (hm : n ≤ 1099511627776) (b : ByteArray) (r : Int) (hv : formV x l = (b, r)) : Calls Try.prog 20 #[.int .i64 x, .slice ao n c] u fun e u' => e = .returned (.tuple #[.string b, .int .i64 r]) ∧ Below u.heap.size u u' := by
  have HS := hide (sIsSeg x)
  have HL := hide fun (G : World) (hG : Below u.heap.size u G) => sIsList l ao n c G (h.below hG)
  by_cases hx : segP x
  · rw [segB_true.2 hx] at HS
    unfold formV at hv
    rw [if_pos hx] at hv
    by_cases hl : liB l = true
    · rw [hl] at HL
      rw [if_pos hl] at hv
      cases hv
      obtain ⟨p, rfl⟩ := Int.eq_ofNat_of_zero_le hx.1
      have HF := hide fun (G : World) (hG : Below u.heap.size u G) => sForm0 p (by have := hx.2; omega) l ao n c G (h.below hG) (liShort hl) hm
      rw [Int.toNat_natCast]
      clear hx hl h hm
      go_enter Try.func20, Try.ntmps20
      go_wp2_with (first
        | (go_at_call 55; refine (unhide HS u).mono ?_; rintro e W0 ⟨rfl, rfl⟩)
        | (go_at_call 65; refine (unhide HL _ (Below.refl _ _)).mono ?_; rintro e W1 ⟨rfl, hb⟩; have HB := hide hb; clear hb)
        | (go_at_call 66; refine (unhide HF _ (unhide HB)).mono ?_; rintro e W2 ⟨rfl, hb⟩; have HB2 := hide ((unhide HB).trans (hb.mono (unhide HB).size)); clear hb)
        | fail)
      go_ret2
      exact ⟨rfl, unhide HB2⟩
    · rw [Bool.not_eq_true] at hl
      rw [hl] at HL
      rw [if_neg (by rw [hl]; decide)] at hv
      cases hv
      clear hx hl h hm
      go_enter Try.func20, Try.ntmps20
      go_wp2_with (first
        | (go_at_call 55; refine (unhide HS u).mono ?_; rintro e W0 ⟨rfl, rfl⟩)
        | (go_at_call 65; refine (unhide HL _ (Below.refl _ _)).mono ?_; rintro e W1 ⟨rfl, hb⟩; have HB := hide hb; clear hb)
        | fail)
      go_ret2
      exact ⟨rfl, unhide HB⟩
  · rw [segB_false.2 hx] at HS
    unfold formV at hv
    rw [if_neg hx] at hv
    cases hv
    clear hx h hm HL
    go_enter Try.func20, Try.ntmps20
    go_wp2_with (first
      | (go_at_call 55; refine (unhide HS u).mono ?_; rintro e W0 ⟨rfl, rfl⟩)
      | fail)
    go_ret2
    exact ⟨rfl, Below.refl _ _⟩
set_option maxRecDepth 100000 in
set_option maxHeartbeats 1000000 in
theorem qForm (x : Int) (l : List En) (ao : Option Addr) (n c : Nat) (u : World) (h : El u l ao n c) (hm : n ≤ 1099511627776) (b : ByteArray) (r : Int) (hv : formV x l = (b, r)) : Calls Try.prog 18 #[.int .i64 x, .slice ao n c] u fun e u' => e = .returned (.tuple #[.string b, .int .i64 r]) ∧ Below u.heap.size u u' := by
  have HS := hide (qIsSeg x)
  have HL := hide fun (G : World) (hG : Below u.heap.size u G) => qList l ao n c G (h.below hG)
  by_cases hx : segP x
  · rw [segB_true.2 hx] at HS
    unfold formV at hv
    rw [if_pos hx] at hv
    by_cases hl : liB l = true
    · rw [hl] at HL
      rw [if_pos hl] at hv
      cases hv
      obtain ⟨p, rfl⟩ := Int.eq_ofNat_of_zero_le hx.1
      have HF := hide fun (G : World) (hG : Below u.heap.size u G) => qForm0 p (by have := hx.2; omega) l ao n c G (h.below hG) (liShort hl) hm
      rw [Int.toNat_natCast]
      clear hx hl h hm
      go_enter Try.func18, Try.ntmps18
      go_wp2_with (first
        | (go_at_call 53; refine (unhide HS u).mono ?_; rintro e W0 ⟨rfl, rfl⟩)
        | (go_at_call 50; refine (unhide HL _ (Below.refl _ _)).mono ?_; rintro e W1 ⟨rfl, hb⟩; have HB := hide hb; clear hb)
        | (go_at_call 63; refine (unhide HF _ (unhide HB)).mono ?_; rintro e W2 ⟨rfl, hb⟩; have HB2 := hide ((unhide HB).trans (hb.mono (unhide HB).size)); clear hb)
        | fail)
      go_ret2
      exact ⟨rfl, unhide HB2⟩
    · rw [Bool.not_eq_true] at hl
      rw [hl] at HL
      rw [if_neg (by rw [hl]; decide)] at hv
      cases hv
      clear hx hl h hm
      go_enter Try.func18, Try.ntmps18
      go_wp2_with (first
        | (go_at_call 53; refine (unhide HS u).mono ?_; rintro e W0 ⟨rfl, rfl⟩)
        | (go_at_call 50; refine (unhide HL _ (Below.refl _ _)).mono ?_; rintro e W1 ⟨rfl, hb⟩; have HB := hide hb; clear hb)
        | fail)
      go_ret2
      exact ⟨rfl, unhide HB⟩
  · rw [segB_false.2 hx] at HS
    unfold formV at hv
    rw [if_neg hx] at hv
    cases hv
    clear hx h hm HL
    go_enter Try.func18, Try.ntmps18
    go_wp2_with (first
      | (go_at_call 53; refine (unhide HS u).mono ?_; rintro e W0 ⟨rfl, rfl⟩)
      | fail)
    go_ret2
    exact ⟨rfl, Below.refl _ _⟩
set_option maxRecDepth 100000 in
set_option maxHeartbeats 2000000 in
theorem sSum (x : Int) (l : List En) (ao : Option Addr) (n c : Nat) (wd : Int) (u : World) (h : El u l ao n c) (hm : n ≤ 1099511627776) (b : ByteArray) (r : Int) (hv : sumV x l wd = (b, r)) : Calls Try.prog 21 #[.int .i64 x, .slice ao n c, .int .i64 wd] u fun e u' => e = .returned (.tuple #[.string b, .int .i64 r]) ∧ Below u.heap.size u u' := by
  have HS := hide (sIsSeg x)
  have HW := hide (sIsWid wd)
  have HL := hide fun (G : World) (hG : Below u.heap.size u G) => sValid l ao n c wd G (h.below hG)
  unfold sumV at hv
  by_cases hx : segP x
  · rw [segB_true.2 hx] at HS
    by_cases hw : widP wd
    · rw [widB_true.2 hw] at HW
      rw [if_pos ⟨hx, hw⟩] at hv
      by_cases hl : okB l wd = true
      · rw [hl] at HL
        rw [if_pos hl] at hv
        by_cases h0 : l.length = 0
        · rw [if_pos h0] at hv
          cases hv
          obtain rfl : n = 0 := h.hn.trans h0
          clear hx hw hl h hm h0
          go_enter Try.func21, Try.ntmps21
          go_wp2_with (first
            | (go_at_call 55; refine (unhide HS u).mono ?_; rintro e W0 ⟨rfl, rfl⟩)
            | (go_at_call 67; refine (unhide HW _).mono ?_; rintro e W5 ⟨rfl, rfl⟩)
            | (go_at_call 22; refine (unhide HL _ (Below.refl _ _)).mono ?_; rintro e W1 ⟨rfl, hb⟩; have HB := hide hb; clear hb)
            | fail)
          go_ret2
          exact ⟨rfl, unhide HB⟩
        · rw [if_neg h0] at hv
          obtain ⟨p, rfl⟩ := Int.eq_ofNat_of_zero_le hx.1
          obtain ⟨k, rfl⟩ := Int.eq_ofNat_of_zero_le (show 0 ≤ wd by have := hw.1; omega)
          rw [Int.toNat_natCast, Int.toNat_natCast] at hv
          have hsh := okShort (okB_true.1 hl)
          have HF := hide fun (G : World) (hG : Below u.heap.size u G) => sForm0 p (by have := hx.2; omega) l ao n c G (h.below hG) hsh hm
          have hfs := formB_size (x := p) hsh (by rw [← h.hn]; exact hm)
          have hk1 : 1 ≤ k := by have := hw.1; omega
          have hk2 : k ≤ 32 := by have := hw.2; omega
          have hn0 : ((n : Int) == 0) = false := by rw [h.hn]; exact beq_false_of_ne (by omega)
          have hn1 : ¬ (n : Int) = 0 := by rw [h.hn]; omega
          generalize formB p l = fb at *
          have HC := hide fun G : World => D.dCut fb k (by omega) hk1 hk2 G
          generalize D.cutS fb k = cs at *
          cases hv
          clear hx hw hl h hm h0 hsh
          go_enter Try.func21, Try.ntmps21
          go_wp2_with (first
            | (go_at_call 55; refine (unhide HS u).mono ?_; rintro e W0 ⟨rfl, rfl⟩)
            | (go_at_call 67; refine (unhide HW _).mono ?_; rintro e W5 ⟨rfl, rfl⟩)
            | (go_at_call 22; refine (unhide HL _ (Below.refl _ _)).mono ?_; rintro e W1 ⟨rfl, hb⟩; have HB := hide hb; clear hb)
            | (go_at_call 66; refine (unhide HF _ (unhide HB)).mono ?_; rintro e W2 ⟨rfl, hb⟩; have HB2 := hide ((unhide HB).trans (hb.mono (unhide HB).size)); clear hb)
            | (go_at_call 52; refine (unhide HC _).mono ?_; rintro e W3 ⟨rfl, hb⟩; have HB3 := hide ((unhide HB2).trans (hb.mono (unhide HB2).size)); clear hb)
            | fail)
          go_ret2
          exact ⟨rfl, unhide HB3⟩
      · rw [Bool.not_eq_true] at hl
        rw [hl] at HL
        rw [if_neg (by rw [hl]; decide)] at hv
        cases hv
        clear hx hw hl h hm
        go_enter Try.func21, Try.ntmps21
        go_wp2_with (first
          | (go_at_call 55; refine (unhide HS u).mono ?_; rintro e W0 ⟨rfl, rfl⟩)
          | (go_at_call 67; refine (unhide HW _).mono ?_; rintro e W5 ⟨rfl, rfl⟩)
          | (go_at_call 22; refine (unhide HL _ (Below.refl _ _)).mono ?_; rintro e W1 ⟨rfl, hb⟩; have HB := hide hb; clear hb)
          | fail)
        go_ret2
        exact ⟨rfl, unhide HB⟩
    · rw [widB_false.2 hw] at HW
      rw [if_neg (fun h => hw h.2)] at hv
      cases hv
      clear hx hw h hm HL
      go_enter Try.func21, Try.ntmps21
      go_wp2_with (first
        | (go_at_call 55; refine (unhide HS u).mono ?_; rintro e W0 ⟨rfl, rfl⟩)
        | (go_at_call 67; refine (unhide HW _).mono ?_; rintro e W5 ⟨rfl, rfl⟩)
        | fail)
      go_ret2
      exact ⟨rfl, Below.refl _ _⟩
  · rw [segB_false.2 hx] at HS
    rw [if_neg (fun h => hx h.1)] at hv
    cases hv
    clear hx h hm HL HW
    go_enter Try.func21, Try.ntmps21
    go_wp2_with (first
      | (go_at_call 55; refine (unhide HS u).mono ?_; rintro e W0 ⟨rfl, rfl⟩)
      | fail)
    go_ret2
    exact ⟨rfl, Below.refl _ _⟩
set_option maxRecDepth 100000 in
set_option maxHeartbeats 2000000 in
theorem qSum (x : Int) (l : List En) (ao : Option Addr) (n c : Nat) (wd : Int) (u : World) (h : El u l ao n c) (hm : n ≤ 1099511627776) (b : ByteArray) (r : Int) (hv : sumV x l wd = (b, r)) : Calls Try.prog 19 #[.int .i64 x, .slice ao n c, .int .i64 wd] u fun e u' => e = .returned (.tuple #[.string b, .int .i64 r]) ∧ Below u.heap.size u u' := by
  have HS := hide (qIsSeg x)
  have HW := hide (qIsWid wd)
  have HL := hide fun (G : World) (hG : Below u.heap.size u G) => qValid l ao n c wd G (h.below hG)
  unfold sumV at hv
  by_cases hx : segP x
  · rw [segB_true.2 hx] at HS
    by_cases hw : widP wd
    · rw [widB_true.2 hw] at HW
      rw [if_pos ⟨hx, hw⟩] at hv
      by_cases hl : okB l wd = true
      · rw [hl] at HL
        rw [if_pos hl] at hv
        by_cases h0 : l.length = 0
        · rw [if_pos h0] at hv
          cases hv
          obtain rfl : n = 0 := h.hn.trans h0
          clear hx hw hl h hm h0
          go_enter Try.func19, Try.ntmps19
          go_wp2_with (first
            | (go_at_call 53; refine (unhide HS u).mono ?_; rintro e W0 ⟨rfl, rfl⟩)
            | (go_at_call 64; refine (unhide HW _).mono ?_; rintro e W5 ⟨rfl, rfl⟩)
            | (go_at_call 23; refine (unhide HL _ (Below.refl _ _)).mono ?_; rintro e W1 ⟨rfl, hb⟩; have HB := hide hb; clear hb)
            | fail)
          go_ret2
          exact ⟨rfl, unhide HB⟩
        · rw [if_neg h0] at hv
          obtain ⟨p, rfl⟩ := Int.eq_ofNat_of_zero_le hx.1
          obtain ⟨k, rfl⟩ := Int.eq_ofNat_of_zero_le (show 0 ≤ wd by have := hw.1; omega)
          rw [Int.toNat_natCast, Int.toNat_natCast] at hv
          have hsh := okShort (okB_true.1 hl)
          have HF := hide fun (G : World) (hG : Below u.heap.size u G) => qForm0 p (by have := hx.2; omega) l ao n c G (h.below hG) hsh hm
          have hfs := formB_size (x := p) hsh (by rw [← h.hn]; exact hm)
          have hk1 : 1 ≤ k := by have := hw.1; omega
          have hk2 : k ≤ 32 := by have := hw.2; omega
          have hn0 : ((n : Int) == 0) = false := by rw [h.hn]; exact beq_false_of_ne (by omega)
          have hn1 : ¬ (n : Int) = 0 := by rw [h.hn]; omega
          generalize formB p l = fb at *
          have HO := hide (fun G => D.mOf fb hfs G)
          have hsi := D.ofCells_info fb.data.toList
          have HKL : Hid (((D.Sha.of fb.data.toList).take k).length = k) := by show _ = _; rw [List.length_take, D.Sha.of_length]; omega
          cases hv
          clear hx hw hl h hm h0 hsh
          go_enter Try.func19, Try.ntmps19
          go_wp2_with (first
            | (go_at_call 53; refine (unhide HS u).mono ?_; rintro e W0 ⟨rfl, rfl⟩)
            | (go_at_call 64; refine (unhide HW _).mono ?_; rintro e W5 ⟨rfl, rfl⟩)
            | (go_at_call 23; refine (unhide HL _ (Below.refl _ _)).mono ?_; rintro e W1 ⟨rfl, hb⟩; have HB := hide hb; clear hb)
            | (go_at_call 63; refine (unhide HF _ (unhide HB)).mono ?_; rintro e W2 ⟨rfl, hb⟩; have HB2 := hide ((unhide HB).trans (hb.mono (unhide HB).size)); clear hb)
            | (go_at_call 61; refine (unhide HO _).mono ?_; rintro e W4 ⟨rfl, hb⟩; have HB4 := hide ((unhide HB2).trans (hb.mono (unhide HB2).size)); clear hb; obtain ⟨M, hM⟩ : ∃ M, M = W4.heap.size := ⟨_, rfl⟩; have HM := hide hM; clear hM; have hsl := D.slSumTo M k hk2)
            | (refine wpList_alloc_row (by rfl) 81 (by rfl) (some 8) (by rfl) M (unhide HM).symm D.Z32 D.zeroS ?_; intro W6 HR5 HB5 HS5; simp only [Act.put, List.setIfInBounds_toArray, List.set_cons_zero, List.set_cons_succ])
            | (refine D.wpList_store_u1 rfl 81 (.tmp 8) (.tmp 27) rfl M (D.ofCells fb.data.toList) rfl rfl 81 D.Z32 (unhide HR5) hsi (by rw [D.ofCells_size]; rfl) (D.ofCells_one _) ?_; intro W7 HR6 HU6; have hcv := D.conv_front (unhide HR6) ((D.Sha.of fb.data.toList).take k) k 32 (unhide HKL) (D.ofCells_take _ _))
            | fail)
          go_ret2
          have HMS := (unhide HB4).size
          rw [← unhide HM] at HMS
          exact ⟨rfl, ((unhide HB4).trans ((unhide HB5).mono HMS)).trans ((unhide HU6).toBelow (by have := unhide HS5; omega) HMS)⟩
      · rw [Bool.not_eq_true] at hl
        rw [hl] at HL
        rw [if_neg (by rw [hl]; decide)] at hv
        cases hv
        clear hx hw hl h hm
        go_enter Try.func19, Try.ntmps19
        go_wp2_with (first
          | (go_at_call 53; refine (unhide HS u).mono ?_; rintro e W0 ⟨rfl, rfl⟩)
          | (go_at_call 64; refine (unhide HW _).mono ?_; rintro e W5 ⟨rfl, rfl⟩)
          | (go_at_call 23; refine (unhide HL _ (Below.refl _ _)).mono ?_; rintro e W1 ⟨rfl, hb⟩; have HB := hide hb; clear hb)
          | fail)
        go_ret2
        exact ⟨rfl, unhide HB⟩
    · rw [widB_false.2 hw] at HW
      rw [if_neg (fun h => hw h.2)] at hv
      cases hv
      clear hx hw h hm HL
      go_enter Try.func19, Try.ntmps19
      go_wp2_with (first
        | (go_at_call 53; refine (unhide HS u).mono ?_; rintro e W0 ⟨rfl, rfl⟩)
        | (go_at_call 64; refine (unhide HW _).mono ?_; rintro e W5 ⟨rfl, rfl⟩)
        | fail)
      go_ret2
      exact ⟨rfl, Below.refl _ _⟩
  · rw [segB_false.2 hx] at HS
    rw [if_neg (fun h => hx h.1)] at hv
    cases hv
    clear hx h hm HL HW
    go_enter Try.func19, Try.ntmps19
    go_wp2_with (first
      | (go_at_call 53; refine (unhide HS u).mono ?_; rintro e W0 ⟨rfl, rfl⟩)
      | fail)
    go_ret2
    exact ⟨rfl, Below.refl _ _⟩
end Go.Proofs.Ytbahlfpcbplofaa.S
