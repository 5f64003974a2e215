/- States: the walks of DvvNames and DvvBack. -/
import Derived.Test.YtbahfpcfjhifbaaYs
import Derived.Test.YtbahfpcfjhifbaaYy
namespace Go.Proofs.Ytbahfpcfjhifbaa
open Go.RowKit Go.Lib
section
variable {W0 : World} {a : St} {v : Sv} {n m : Nat}
theorem kvEncode {t : ByteArray} {r : Int} (he : encT a = (t, r)) (h1 : Sx W0 a v n m) : Calls Try.prog 31 #[v.v n m] W0 fun e W' => e = .returned (.tuple #[.string t, .int .i64 r]) ∧ Below W0.heap.size W0 W' := by
  rw [h1.en, h1.em]
  exact dEncode a v W0 h1.sat t r he
theorem kvDecode {s : ByteArray} {J : St} {r : Int} (hs : s.size ≤ 140737488355328) (hd : decT s = (J, r)) : Calls Try.prog 33 #[.string s] W0 fun e W' => ∃ x k l, e = .returned (.tuple #[Sv.v x k l, .int .i64 r]) ∧ Sx W' J x k l ∧ Below W0.heap.size W0 W' := by
  have hJ : SOk J ∧ FitT J := by
    rcases decT_cases s with ⟨T, h1, h2, h3, -⟩ | h1
    · rw [hd] at h1; obtain ⟨rfl, -⟩ := Prod.mk.inj h1; exact ⟨h2, h3⟩
    · rw [hd] at h1; obtain ⟨rfl, -⟩ := Prod.mk.inj h1; exact ⟨none_ok, fit_none⟩
  refine (dDecode s W0 hs J r hd).mono ?_
  rintro e W' ⟨x, k, l, h3, h4, h5, h6, h7⟩
  exact ⟨x, k, l, h3, ⟨h6.at hJ.2 hJ.1, h4, h5⟩, h7⟩
end
theorem encT_ok {s : St} (h : SOk s) : encT s = (⟨(stB s).toArray⟩, 0) := by unfold encT; rw [if_pos h]
theorem encT_no {s : St} (h : ¬ SOk s) : encT s = (⟨#[]⟩, 110) := by unfold encT; rw [if_neg h]
theorem enc_none : encT St.none = (⟨#[0, 0]⟩, 0) := by rw [encT_ok none_ok, stB_none]
theorem dec_none : decT ⟨#[0, 0]⟩ = (St.none, 0) := by rw [← stB_none]; exact decT_enc none_ok fit_none
set_option maxRecDepth 100000 in
set_option maxHeartbeats 8000000 in
theorem names11_walk (u : World) : Calls Try.prog 7 #[] u fun e u' => e = .returned (.bool true) ∧ Below u.heap.size u u' := by
  obtain ⟨N, hN⟩ : ∃ N, N = u.heap.size := ⟨_, rfl⟩
  have HNW : Hid (N ≤ u.heap.size) := Nat.le_of_eq hN
  have HBU : Hid (Below N u u) := Below.refl _ _
  rw [← hN]
  clear hN
  have HEN : Hid (∀ W : World, Calls Try.prog 31 #[Sv.v Sv.none 0 0] W fun e W' => e = .returned (.tuple #[.string ⟨#[0, 0]⟩, .int .i64 0]) ∧ Below W.heap.size W W') := fun W => kvEncode enc_none (Sx.none W)
  have HDE : Hid (∀ W : World, Calls Try.prog 33 #[.string ⟨#[0, 0]⟩] W fun e W' => ∃ x k l, e = .returned (.tuple #[Sv.v x k l, .int .i64 0]) ∧ Sx W' St.none x k l ∧ Below W.heap.size W W') := fun W => kvDecode (by decide) dec_none
  have HVN := hide (sokB_true.2 none_ok)
  go_enter Try.func7, Try.ntmps7
  go_wp2_with (first
    | (go_at_call 31; refine (unhide HEN u).mono ?_; rintro e W1 ⟨rfl, hbx⟩; replace HBU : Hid (Below N u W1) := (unhide HBU).trans (hbx.mono (unhide HNW)); replace HNW : Hid (N ≤ W1.heap.size) := Nat.le_trans (unhide HNW) hbx.size; clear hbx; )
    | (go_at_call 33; refine (unhide HDE W1).mono ?_; rintro e X1 ⟨vX, nX, mX, rfl, hsx, hbx⟩; replace HBU : Hid (Below N u X1) := (unhide HBU).trans (hbx.mono (unhide HNW)); replace HNW : Hid (N ≤ X1.heap.size) := Nat.le_trans (unhide HNW) hbx.size; obtain rfl : nX = 0 := hsx.en; obtain rfl : mX = 0 := hsx.em; have HSJ := hide hsx; clear hsx hbx; obtain ⟨KX, hK⟩ : ∃ k, k = X1.heap.size := ⟨_, rfl⟩; have HK := hide hK; clear hK)
    | ((with_reducible refine wpList_alloc_state (by rfl) (by rfl) (some 3) (by rfl) KX (unhide HK) ?_); intro X2 HX2 HB2 HS2; simp only [Act.put, List.setIfInBounds_toArray, List.set_cons_zero, List.set_cons_succ])
    | ((with_reducible refine wpList_store_state (by rfl) (.tmp 3) (.tmp 12) (by rfl) KX vX 0 0 (by with_unfolding_all rfl) (by with_unfolding_all rfl) Sv.none 0 0 (unhide HX2) ?_); intro X3 HX3 HE3; simp only [Act.put]; have hbx : Below X1.heap.size X1 X3 := (by rw [unhide HE3, ← unhide HK]; exact belowRow (unhide HB2) (Nat.le_refl _) _); replace HBU : Hid (Below N u X3) := (unhide HBU).trans (hbx.mono (unhide HNW)); replace HNW : Hid (N ≤ X3.heap.size) := Nat.le_trans (unhide HNW) hbx.size; have HLX : Hid (Lv X3 KX St.none vX 0 0) := ⟨(unhide HSJ).below hbx, unhide HX3⟩; clear hbx HSJ HX2 HB2 HS2 HX3 HE3 HK; obtain ⟨c0X, c1X⟩ := (unhide HLX).cells; )
    | (go_at_call 15; refine (kvValid true (unhide HVN) (unhide HLX).toSx X3 (Below.refl _ _)).mono ?_; rintro e W2 ⟨rfl, hbx⟩; clear c0X c1X; replace HLX := hide ((unhide HLX).below hbx); replace HBU : Hid (Below N u W2) := (unhide HBU).trans (hbx.mono (unhide HNW)); replace HNW : Hid (N ≤ W2.heap.size) := Nat.le_trans (unhide HNW) hbx.size; clear hbx; obtain ⟨c0X, c1X⟩ := (unhide HLX).cells; )
    | fail)
  go_ret
  exact ⟨rfl, unhide HBU⟩
set_option maxRecDepth 100000 in
set_option maxHeartbeats 16000000 in
theorem back11_walk (s : St) (b : ByteArray) (vs : Sv) (u : World) (h : SAt u s vs) (hb : b.size ≤ 140737488355328) : Calls Try.prog 10 #[vs.v s.seen.length s.sibs.length, .string b] u fun e u' => e = .returned (.bool true) ∧ Below u.heap.size u u' := by
  obtain ⟨N, hN⟩ : ∃ N, N = u.heap.size := ⟨_, rfl⟩
  have HN := hide hN
  obtain ⟨na, hna⟩ : ∃ n, n = s.seen.length := ⟨_, rfl⟩
  obtain ⟨ma, hma⟩ : ∃ n, n = s.sibs.length := ⟨_, rfl⟩
  have HSA : Hid (Sx u s vs na ma) := ⟨h, hna, hma⟩
  have HF := hide h.fit
  rw [← hna, ← hma, ← hN]
  clear hN hna hma h
  have HU : Hid (∀ W : World, Below N u W → Below u.heap.size u W) := fun W hW => by rw [← unhide HN]; exact hW
  have HBZ := hide hb
  clear hb
  have HDB : Hid ((∃ T, decT b = (T, 0) ∧ sokB T = true ∧ encT T = (b, 0)) ∨ decT b = (St.none, 110)) := by
    rcases decT_cases b with ⟨T, h1, h2, -, h4⟩ | h1
    · exact .inl ⟨T, h1, sokB_true.2 h2, by rw [encT_ok h2, h4]⟩
    · exact .inr h1
  by_cases ha : SOk s
  · have HVA := hide (sokB_true.2 ha)
    have HEA := hide (encT_ok ha)
    have HDA := hide (decT_enc ha (unhide HF))
    have HZA : Hid ((⟨(stB s).toArray⟩ : ByteArray).size ≤ 140737488355328) := by
      have h1 := stB_len ha
      have h2 : (⟨(stB s).toArray⟩ : ByteArray).size = (stB s).length := List.size_toArray
      show (⟨(stB s).toArray⟩ : ByteArray).size ≤ 140737488355328
      omega
    have HSS : Hid (sameB s s = true) := sameB_iff.2 rfl
    generalize (⟨(stB s).toArray⟩ : ByteArray) = E at *
    clear ha
    rcases unhide HDB with ⟨T, h1, h2, h3⟩ | h1
    · have HD1 := hide h1
      have HVT := hide h2
      have HET := hide h3
      clear h1 h2 h3 HDB
      go_enter Try.func10, Try.ntmps10
      go_wp2_with (first
        | ((with_reducible refine wpList_box_state (by rfl) (.tmp 0) (by rfl) (some 2) (by rfl) N (unhide HN) vs na ma (by with_unfolding_all rfl) ?_); intro W1 HX1 HB1 HS1; simp only [Act.put, List.setIfInBounds_toArray, List.set_cons_zero, List.set_cons_succ]; have HBU := HB1; have HLA : Hid (Lv W1 N s vs na ma) := ⟨(unhide HSA).below (unhide HU _ (unhide HBU)), unhide HX1⟩; have HNW : Hid (N ≤ W1.heap.size) := (by rw [unhide HS1]; exact Nat.le_succ _); clear HX1 HB1 HS1)
        | (go_at_call 34; refine (lAwake W1).mono ?_; rintro e W2 ⟨rfl, hbx⟩; replace HLA := hide ((unhide HLA).below hbx); replace HBU : Hid (Below N u W2) := (unhide HBU).trans (hbx.mono (unhide HNW)); replace HNW : Hid (N ≤ W2.heap.size) := Nat.le_trans (unhide HNW) hbx.size; clear hbx; obtain ⟨c0A, c1A⟩ := (unhide HLA).cells; )
        | (go_at_call 31; refine (kvEncode (unhide HEA) (unhide HLA).toSx (W0 := W2)).mono ?_; rintro e W3 ⟨rfl, hbx⟩; clear c0A c1A; replace HLA := hide ((unhide HLA).below hbx); replace HBU : Hid (Below N u W3) := (unhide HBU).trans (hbx.mono (unhide HNW)); replace HNW : Hid (N ≤ W3.heap.size) := Nat.le_trans (unhide HNW) hbx.size; clear hbx HEA; obtain ⟨c0A, c1A⟩ := (unhide HLA).cells; )
        | (go_at_call 16; refine (kvRValid true (unhide HVA) (unhide HLA).toSx W3 (Below.refl _ _)).mono ?_; rintro e W4 ⟨rfl, hbx⟩; clear c0A c1A; replace HLA := hide ((unhide HLA).below hbx); replace HBU : Hid (Below N u W4) := (unhide HBU).trans (hbx.mono (unhide HNW)); replace HNW : Hid (N ≤ W4.heap.size) := Nat.le_trans (unhide HNW) hbx.size; clear hbx; obtain ⟨c0A, c1A⟩ := (unhide HLA).cells; )
        | (go_at_call 33; refine (kvDecode (W0 := W4) (unhide HZA) (unhide HDA)).mono ?_; rintro e X1 ⟨vX, nX, mX, rfl, hsx, hbx⟩; clear c0A c1A; replace HLA := hide ((unhide HLA).below hbx); replace HBU : Hid (Below N u X1) := (unhide HBU).trans (hbx.mono (unhide HNW)); replace HNW : Hid (N ≤ X1.heap.size) := Nat.le_trans (unhide HNW) hbx.size; have HSJ := hide hsx; clear hsx hbx HDA; obtain ⟨KX, hK⟩ : ∃ k, k = X1.heap.size := ⟨_, rfl⟩; have HK := hide hK; clear hK)
        | ((with_reducible refine wpList_alloc_state (by rfl) (by rfl) (some 7) (by rfl) KX (unhide HK) ?_); intro X2 HX2 HB2 HS2; simp only [Act.put, List.setIfInBounds_toArray, List.set_cons_zero, List.set_cons_succ])
        | ((with_reducible refine wpList_store_state (by rfl) (.tmp 7) (.tmp 30) (by rfl) KX vX nX mX (by with_unfolding_all rfl) (by with_unfolding_all rfl) Sv.none 0 0 (unhide HX2) ?_); intro X3 HX3 HE3; simp only [Act.put]; have hbx : Below X1.heap.size X1 X3 := (by rw [unhide HE3, ← unhide HK]; exact belowRow (unhide HB2) (Nat.le_refl _) _); replace HLA := hide ((unhide HLA).below hbx); replace HBU : Hid (Below N u X3) := (unhide HBU).trans (hbx.mono (unhide HNW)); replace HNW : Hid (N ≤ X3.heap.size) := Nat.le_trans (unhide HNW) hbx.size; have HLX : Hid (Lv X3 KX s vX nX mX) := ⟨(unhide HSJ).below hbx, unhide HX3⟩; clear hbx HSJ HX2 HB2 HS2 HX3 HE3 HK; obtain ⟨c0A, c1A⟩ := (unhide HLA).cells; obtain ⟨c0X, c1X⟩ := (unhide HLX).cells; )
        | (go_at_call 17; refine (kvSame true (unhide HSS) (unhide HLX).toSx (unhide HLA).toSx X3 (Below.refl _ _)).mono ?_; rintro e W5 ⟨rfl, hbx⟩; clear c0A c1A c0X c1X; replace HLA := hide ((unhide HLA).below hbx); replace HLX := hide ((unhide HLX).below hbx); replace HBU : Hid (Below N u W5) := (unhide HBU).trans (hbx.mono (unhide HNW)); replace HNW : Hid (N ≤ W5.heap.size) := Nat.le_trans (unhide HNW) hbx.size; clear hbx; obtain ⟨c0A, c1A⟩ := (unhide HLA).cells; obtain ⟨c0X, c1X⟩ := (unhide HLX).cells; )
        | (go_at_call 33; refine (kvDecode (W0 := W5) (unhide HBZ) (unhide HD1)).mono ?_; rintro e Y1 ⟨vY, nY, mY, rfl, hsx, hbx⟩; clear c0A c1A c0X c1X; replace HLA := hide ((unhide HLA).below hbx); replace HLX := hide ((unhide HLX).below hbx); replace HBU : Hid (Below N u Y1) := (unhide HBU).trans (hbx.mono (unhide HNW)); replace HNW : Hid (N ≤ Y1.heap.size) := Nat.le_trans (unhide HNW) hbx.size; have HSJ := hide hsx; clear hsx hbx HD1; obtain ⟨KY, hK⟩ : ∃ k, k = Y1.heap.size := ⟨_, rfl⟩; have HK := hide hK; clear hK)
        | ((with_reducible refine wpList_alloc_state (by rfl) (by rfl) (some 9) (by rfl) KY (unhide HK) ?_); intro Y2 HX2 HB2 HS2; simp only [Act.put, List.setIfInBounds_toArray, List.set_cons_zero, List.set_cons_succ])
        | ((with_reducible refine wpList_store_state (by rfl) (.tmp 9) (.tmp 43) (by rfl) KY vY nY mY (by with_unfolding_all rfl) (by with_unfolding_all rfl) Sv.none 0 0 (unhide HX2) ?_); intro Y3 HX3 HE3; simp only [Act.put]; have hbx : Below Y1.heap.size Y1 Y3 := (by rw [unhide HE3, ← unhide HK]; exact belowRow (unhide HB2) (Nat.le_refl _) _); replace HLA := hide ((unhide HLA).below hbx); replace HLX := hide ((unhide HLX).below hbx); replace HBU : Hid (Below N u Y3) := (unhide HBU).trans (hbx.mono (unhide HNW)); replace HNW : Hid (N ≤ Y3.heap.size) := Nat.le_trans (unhide HNW) hbx.size; have HLY : Hid (Lv Y3 KY T vY nY mY) := ⟨(unhide HSJ).below hbx, unhide HX3⟩; clear hbx HSJ HX2 HB2 HS2 HX3 HE3 HK; obtain ⟨c0A, c1A⟩ := (unhide HLA).cells; obtain ⟨c0X, c1X⟩ := (unhide HLX).cells; obtain ⟨c0Y, c1Y⟩ := (unhide HLY).cells; )
        | (go_at_call 31; refine (kvEncode (unhide HET) (unhide HLY).toSx (W0 := Y3)).mono ?_; rintro e W6 ⟨rfl, hbx⟩; clear c0A c1A c0X c1X c0Y c1Y; replace HLA := hide ((unhide HLA).below hbx); replace HLX := hide ((unhide HLX).below hbx); replace HLY := hide ((unhide HLY).below hbx); replace HBU : Hid (Below N u W6) := (unhide HBU).trans (hbx.mono (unhide HNW)); replace HNW : Hid (N ≤ W6.heap.size) := Nat.le_trans (unhide HNW) hbx.size; clear hbx; obtain ⟨c0A, c1A⟩ := (unhide HLA).cells; obtain ⟨c0X, c1X⟩ := (unhide HLX).cells; obtain ⟨c0Y, c1Y⟩ := (unhide HLY).cells; )
        | (go_at_call 15; refine (kvValid true (unhide HVT) (unhide HLY).toSx W6 (Below.refl _ _)).mono ?_; rintro e W7 ⟨rfl, hbx⟩; clear c0A c1A c0X c1X c0Y c1Y; replace HLA := hide ((unhide HLA).below hbx); replace HLX := hide ((unhide HLX).below hbx); replace HLY := hide ((unhide HLY).below hbx); replace HBU : Hid (Below N u W7) := (unhide HBU).trans (hbx.mono (unhide HNW)); replace HNW : Hid (N ≤ W7.heap.size) := Nat.le_trans (unhide HNW) hbx.size; clear hbx; obtain ⟨c0A, c1A⟩ := (unhide HLA).cells; obtain ⟨c0X, c1X⟩ := (unhide HLX).cells; obtain ⟨c0Y, c1Y⟩ := (unhide HLY).cells; )
        | fail)
      go_ret
      exact ⟨rfl, unhide HBU⟩
    · have HD1 := hide h1
      clear h1 HDB
      go_enter Try.func10, Try.ntmps10
      go_wp2_with (first
        | ((with_reducible refine wpList_box_state (by rfl) (.tmp 0) (by rfl) (some 2) (by rfl) N (unhide HN) vs na ma (by with_unfolding_all rfl) ?_); intro W1 HX1 HB1 HS1; simp only [Act.put, List.setIfInBounds_toArray, List.set_cons_zero, List.set_cons_succ]; have HBU := HB1; have HLA : Hid (Lv W1 N s vs na ma) := ⟨(unhide HSA).below (unhide HU _ (unhide HBU)), unhide HX1⟩; have HNW : Hid (N ≤ W1.heap.size) := (by rw [unhide HS1]; exact Nat.le_succ _); clear HX1 HB1 HS1)
        | (go_at_call 34; refine (lAwake W1).mono ?_; rintro e W2 ⟨rfl, hbx⟩; replace HLA := hide ((unhide HLA).below hbx); replace HBU : Hid (Below N u W2) := (unhide HBU).trans (hbx.mono (unhide HNW)); replace HNW : Hid (N ≤ W2.heap.size) := Nat.le_trans (unhide HNW) hbx.size; clear hbx; obtain ⟨c0A, c1A⟩ := (unhide HLA).cells; )
        | (go_at_call 31; refine (kvEncode (unhide HEA) (unhide HLA).toSx (W0 := W2)).mono ?_; rintro e W3 ⟨rfl, hbx⟩; clear c0A c1A; replace HLA := hide ((unhide HLA).below hbx); replace HBU : Hid (Below N u W3) := (unhide HBU).trans (hbx.mono (unhide HNW)); replace HNW : Hid (N ≤ W3.heap.size) := Nat.le_trans (unhide HNW) hbx.size; clear hbx HEA; obtain ⟨c0A, c1A⟩ := (unhide HLA).cells; )
        | (go_at_call 16; refine (kvRValid true (unhide HVA) (unhide HLA).toSx W3 (Below.refl _ _)).mono ?_; rintro e W4 ⟨rfl, hbx⟩; clear c0A c1A; replace HLA := hide ((unhide HLA).below hbx); replace HBU : Hid (Below N u W4) := (unhide HBU).trans (hbx.mono (unhide HNW)); replace HNW : Hid (N ≤ W4.heap.size) := Nat.le_trans (unhide HNW) hbx.size; clear hbx; obtain ⟨c0A, c1A⟩ := (unhide HLA).cells; )
        | (go_at_call 33; refine (kvDecode (W0 := W4) (unhide HZA) (unhide HDA)).mono ?_; rintro e X1 ⟨vX, nX, mX, rfl, hsx, hbx⟩; clear c0A c1A; replace HLA := hide ((unhide HLA).below hbx); replace HBU : Hid (Below N u X1) := (unhide HBU).trans (hbx.mono (unhide HNW)); replace HNW : Hid (N ≤ X1.heap.size) := Nat.le_trans (unhide HNW) hbx.size; have HSJ := hide hsx; clear hsx hbx HDA; obtain ⟨KX, hK⟩ : ∃ k, k = X1.heap.size := ⟨_, rfl⟩; have HK := hide hK; clear hK)
        | ((with_reducible refine wpList_alloc_state (by rfl) (by rfl) (some 7) (by rfl) KX (unhide HK) ?_); intro X2 HX2 HB2 HS2; simp only [Act.put, List.setIfInBounds_toArray, List.set_cons_zero, List.set_cons_succ])
        | ((with_reducible refine wpList_store_state (by rfl) (.tmp 7) (.tmp 30) (by rfl) KX vX nX mX (by with_unfolding_all rfl) (by with_unfolding_all rfl) Sv.none 0 0 (unhide HX2) ?_); intro X3 HX3 HE3; simp only [Act.put]; have hbx : Below X1.heap.size X1 X3 := (by rw [unhide HE3, ← unhide HK]; exact belowRow (unhide HB2) (Nat.le_refl _) _); replace HLA := hide ((unhide HLA).below hbx); replace HBU : Hid (Below N u X3) := (unhide HBU).trans (hbx.mono (unhide HNW)); replace HNW : Hid (N ≤ X3.heap.size) := Nat.le_trans (unhide HNW) hbx.size; have HLX : Hid (Lv X3 KX s vX nX mX) := ⟨(unhide HSJ).below hbx, unhide HX3⟩; clear hbx HSJ HX2 HB2 HS2 HX3 HE3 HK; obtain ⟨c0A, c1A⟩ := (unhide HLA).cells; obtain ⟨c0X, c1X⟩ := (unhide HLX).cells; )
        | (go_at_call 17; refine (kvSame true (unhide HSS) (unhide HLX).toSx (unhide HLA).toSx X3 (Below.refl _ _)).mono ?_; rintro e W5 ⟨rfl, hbx⟩; clear c0A c1A c0X c1X; replace HLA := hide ((unhide HLA).below hbx); replace HLX := hide ((unhide HLX).below hbx); replace HBU : Hid (Below N u W5) := (unhide HBU).trans (hbx.mono (unhide HNW)); replace HNW : Hid (N ≤ W5.heap.size) := Nat.le_trans (unhide HNW) hbx.size; clear hbx; obtain ⟨c0A, c1A⟩ := (unhide HLA).cells; obtain ⟨c0X, c1X⟩ := (unhide HLX).cells; )
        | (go_at_call 33; refine (kvDecode (W0 := W5) (unhide HBZ) (unhide HD1)).mono ?_; rintro e Y1 ⟨vY, nY, mY, rfl, hsx, hbx⟩; clear c0A c1A c0X c1X; replace HLA := hide ((unhide HLA).below hbx); replace HLX := hide ((unhide HLX).below hbx); replace HBU : Hid (Below N u Y1) := (unhide HBU).trans (hbx.mono (unhide HNW)); replace HNW : Hid (N ≤ Y1.heap.size) := Nat.le_trans (unhide HNW) hbx.size; have HSJ := hide hsx; clear hsx hbx HD1; obtain ⟨KY, hK⟩ : ∃ k, k = Y1.heap.size := ⟨_, rfl⟩; have HK := hide hK; clear hK)
        | ((with_reducible refine wpList_alloc_state (by rfl) (by rfl) (some 9) (by rfl) KY (unhide HK) ?_); intro Y2 HX2 HB2 HS2; simp only [Act.put, List.setIfInBounds_toArray, List.set_cons_zero, List.set_cons_succ])
        | ((with_reducible refine wpList_store_state (by rfl) (.tmp 9) (.tmp 43) (by rfl) KY vY nY mY (by with_unfolding_all rfl) (by with_unfolding_all rfl) Sv.none 0 0 (unhide HX2) ?_); intro Y3 HX3 HE3; simp only [Act.put]; have hbx : Below Y1.heap.size Y1 Y3 := (by rw [unhide HE3, ← unhide HK]; exact belowRow (unhide HB2) (Nat.le_refl _) _); replace HLA := hide ((unhide HLA).below hbx); replace HLX := hide ((unhide HLX).below hbx); replace HBU : Hid (Below N u Y3) := (unhide HBU).trans (hbx.mono (unhide HNW)); replace HNW : Hid (N ≤ Y3.heap.size) := Nat.le_trans (unhide HNW) hbx.size; have HLY : Hid (Lv Y3 KY St.none vY nY mY) := ⟨(unhide HSJ).below hbx, unhide HX3⟩; clear hbx HSJ HX2 HB2 HS2 HX3 HE3 HK; obtain ⟨c0A, c1A⟩ := (unhide HLA).cells; obtain ⟨c0X, c1X⟩ := (unhide HLX).cells; obtain ⟨c0Y, c1Y⟩ := (unhide HLY).cells; )
        | fail)
      go_ret
      exact ⟨rfl, unhide HBU⟩
  · have HVA := hide (sokB_false.2 ha)
    have HEA := hide (encT_no ha)
    clear ha
    rcases unhide HDB with ⟨T, h1, h2, h3⟩ | h1
    · have HD1 := hide h1
      have HVT := hide h2
      have HET := hide h3
      clear h1 h2 h3 HDB
      go_enter Try.func10, Try.ntmps10
      go_wp2_with (first
        | ((with_reducible refine wpList_box_state (by rfl) (.tmp 0) (by rfl) (some 2) (by rfl) N (unhide HN) vs na ma (by with_unfolding_all rfl) ?_); intro W1 HX1 HB1 HS1; simp only [Act.put, List.setIfInBounds_toArray, List.set_cons_zero, List.set_cons_succ]; have HBU := HB1; have HLA : Hid (Lv W1 N s vs na ma) := ⟨(unhide HSA).below (unhide HU _ (unhide HBU)), unhide HX1⟩; have HNW : Hid (N ≤ W1.heap.size) := (by rw [unhide HS1]; exact Nat.le_succ _); clear HX1 HB1 HS1)
        | (go_at_call 34; refine (lAwake W1).mono ?_; rintro e W2 ⟨rfl, hbx⟩; replace HLA := hide ((unhide HLA).below hbx); replace HBU : Hid (Below N u W2) := (unhide HBU).trans (hbx.mono (unhide HNW)); replace HNW : Hid (N ≤ W2.heap.size) := Nat.le_trans (unhide HNW) hbx.size; clear hbx; obtain ⟨c0A, c1A⟩ := (unhide HLA).cells; )
        | (go_at_call 31; refine (kvEncode (unhide HEA) (unhide HLA).toSx (W0 := W2)).mono ?_; rintro e W3 ⟨rfl, hbx⟩; clear c0A c1A; replace HLA := hide ((unhide HLA).below hbx); replace HBU : Hid (Below N u W3) := (unhide HBU).trans (hbx.mono (unhide HNW)); replace HNW : Hid (N ≤ W3.heap.size) := Nat.le_trans (unhide HNW) hbx.size; clear hbx HEA; obtain ⟨c0A, c1A⟩ := (unhide HLA).cells; )
        | (go_at_call 16; refine (kvRValid false (unhide HVA) (unhide HLA).toSx W3 (Below.refl _ _)).mono ?_; rintro e W4 ⟨rfl, hbx⟩; clear c0A c1A; replace HLA := hide ((unhide HLA).below hbx); replace HBU : Hid (Below N u W4) := (unhide HBU).trans (hbx.mono (unhide HNW)); replace HNW : Hid (N ≤ W4.heap.size) := Nat.le_trans (unhide HNW) hbx.size; clear hbx; obtain ⟨c0A, c1A⟩ := (unhide HLA).cells; )
        | (go_at_call 33; refine (kvDecode (W0 := W4) (unhide HBZ) (unhide HD1)).mono ?_; rintro e Y1 ⟨vY, nY, mY, rfl, hsx, hbx⟩; clear c0A c1A; replace HLA := hide ((unhide HLA).below hbx); replace HBU : Hid (Below N u Y1) := (unhide HBU).trans (hbx.mono (unhide HNW)); replace HNW : Hid (N ≤ Y1.heap.size) := Nat.le_trans (unhide HNW) hbx.size; have HSJ := hide hsx; clear hsx hbx HD1; obtain ⟨KY, hK⟩ : ∃ k, k = Y1.heap.size := ⟨_, rfl⟩; have HK := hide hK; clear hK)
        | ((with_reducible refine wpList_alloc_state (by rfl) (by rfl) (some 9) (by rfl) KY (unhide HK) ?_); intro Y2 HX2 HB2 HS2; simp only [Act.put, List.setIfInBounds_toArray, List.set_cons_zero, List.set_cons_succ])
        | ((with_reducible refine wpList_store_state (by rfl) (.tmp 9) (.tmp 43) (by rfl) KY vY nY mY (by with_unfolding_all rfl) (by with_unfolding_all rfl) Sv.none 0 0 (unhide HX2) ?_); intro Y3 HX3 HE3; simp only [Act.put]; have hbx : Below Y1.heap.size Y1 Y3 := (by rw [unhide HE3, ← unhide HK]; exact belowRow (unhide HB2) (Nat.le_refl _) _); replace HLA := hide ((unhide HLA).below hbx); replace HBU : Hid (Below N u Y3) := (unhide HBU).trans (hbx.mono (unhide HNW)); replace HNW : Hid (N ≤ Y3.heap.size) := Nat.le_trans (unhide HNW) hbx.size; have HLY : Hid (Lv Y3 KY T vY nY mY) := ⟨(unhide HSJ).below hbx, unhide HX3⟩; clear hbx HSJ HX2 HB2 HS2 HX3 HE3 HK; obtain ⟨c0A, c1A⟩ := (unhide HLA).cells; obtain ⟨c0Y, c1Y⟩ := (unhide HLY).cells; )
        | (go_at_call 31; refine (kvEncode (unhide HET) (unhide HLY).toSx (W0 := Y3)).mono ?_; rintro e W6 ⟨rfl, hbx⟩; clear c0A c1A c0Y c1Y; replace HLA := hide ((unhide HLA).below hbx); replace HLY := hide ((unhide HLY).below hbx); replace HBU : Hid (Below N u W6) := (unhide HBU).trans (hbx.mono (unhide HNW)); replace HNW : Hid (N ≤ W6.heap.size) := Nat.le_trans (unhide HNW) hbx.size; clear hbx; obtain ⟨c0A, c1A⟩ := (unhide HLA).cells; obtain ⟨c0Y, c1Y⟩ := (unhide HLY).cells; )
        | (go_at_call 15; refine (kvValid true (unhide HVT) (unhide HLY).toSx W6 (Below.refl _ _)).mono ?_; rintro e W7 ⟨rfl, hbx⟩; clear c0A c1A c0Y c1Y; replace HLA := hide ((unhide HLA).below hbx); replace HLY := hide ((unhide HLY).below hbx); replace HBU : Hid (Below N u W7) := (unhide HBU).trans (hbx.mono (unhide HNW)); replace HNW : Hid (N ≤ W7.heap.size) := Nat.le_trans (unhide HNW) hbx.size; clear hbx; obtain ⟨c0A, c1A⟩ := (unhide HLA).cells; obtain ⟨c0Y, c1Y⟩ := (unhide HLY).cells; )
        | fail)
      go_ret
      exact ⟨rfl, unhide HBU⟩
    · have HD1 := hide h1
      clear h1 HDB
      go_enter Try.func10, Try.ntmps10
      go_wp2_with (first
        | ((with_reducible refine wpList_box_state (by rfl) (.tmp 0) (by rfl) (some 2) (by rfl) N (unhide HN) vs na ma (by with_unfolding_all rfl) ?_); intro W1 HX1 HB1 HS1; simp only [Act.put, List.setIfInBounds_toArray, List.set_cons_zero, List.set_cons_succ]; have HBU := HB1; have HLA : Hid (Lv W1 N s vs na ma) := ⟨(unhide HSA).below (unhide HU _ (unhide HBU)), unhide HX1⟩; have HNW : Hid (N ≤ W1.heap.size) := (by rw [unhide HS1]; exact Nat.le_succ _); clear HX1 HB1 HS1)
        | (go_at_call 34; refine (lAwake W1).mono ?_; rintro e W2 ⟨rfl, hbx⟩; replace HLA := hide ((unhide HLA).below hbx); replace HBU : Hid (Below N u W2) := (unhide HBU).trans (hbx.mono (unhide HNW)); replace HNW : Hid (N ≤ W2.heap.size) := Nat.le_trans (unhide HNW) hbx.size; clear hbx; obtain ⟨c0A, c1A⟩ := (unhide HLA).cells; )
        | (go_at_call 31; refine (kvEncode (unhide HEA) (unhide HLA).toSx (W0 := W2)).mono ?_; rintro e W3 ⟨rfl, hbx⟩; clear c0A c1A; replace HLA := hide ((unhide HLA).below hbx); replace HBU : Hid (Below N u W3) := (unhide HBU).trans (hbx.mono (unhide HNW)); replace HNW : Hid (N ≤ W3.heap.size) := Nat.le_trans (unhide HNW) hbx.size; clear hbx HEA; obtain ⟨c0A, c1A⟩ := (unhide HLA).cells; )
        | (go_at_call 16; refine (kvRValid false (unhide HVA) (unhide HLA).toSx W3 (Below.refl _ _)).mono ?_; rintro e W4 ⟨rfl, hbx⟩; clear c0A c1A; replace HLA := hide ((unhide HLA).below hbx); replace HBU : Hid (Below N u W4) := (unhide HBU).trans (hbx.mono (unhide HNW)); replace HNW : Hid (N ≤ W4.heap.size) := Nat.le_trans (unhide HNW) hbx.size; clear hbx; obtain ⟨c0A, c1A⟩ := (unhide HLA).cells; )
        | (go_at_call 33; refine (kvDecode (W0 := W4) (unhide HBZ) (unhide HD1)).mono ?_; rintro e Y1 ⟨vY, nY, mY, rfl, hsx, hbx⟩; clear c0A c1A; replace HLA := hide ((unhide HLA).below hbx); replace HBU : Hid (Below N u Y1) := (unhide HBU).trans (hbx.mono (unhide HNW)); replace HNW : Hid (N ≤ Y1.heap.size) := Nat.le_trans (unhide HNW) hbx.size; have HSJ := hide hsx; clear hsx hbx HD1; obtain ⟨KY, hK⟩ : ∃ k, k = Y1.heap.size := ⟨_, rfl⟩; have HK := hide hK; clear hK)
        | ((with_reducible refine wpList_alloc_state (by rfl) (by rfl) (some 9) (by rfl) KY (unhide HK) ?_); intro Y2 HX2 HB2 HS2; simp only [Act.put, List.setIfInBounds_toArray, List.set_cons_zero, List.set_cons_succ])
        | ((with_reducible refine wpList_store_state (by rfl) (.tmp 9) (.tmp 43) (by rfl) KY vY nY mY (by with_unfolding_all rfl) (by with_unfolding_all rfl) Sv.none 0 0 (unhide HX2) ?_); intro Y3 HX3 HE3; simp only [Act.put]; have hbx : Below Y1.heap.size Y1 Y3 := (by rw [unhide HE3, ← unhide HK]; exact belowRow (unhide HB2) (Nat.le_refl _) _); replace HLA := hide ((unhide HLA).below hbx); replace HBU : Hid (Below N u Y3) := (unhide HBU).trans (hbx.mono (unhide HNW)); replace HNW : Hid (N ≤ Y3.heap.size) := Nat.le_trans (unhide HNW) hbx.size; have HLY : Hid (Lv Y3 KY St.none vY nY mY) := ⟨(unhide HSJ).below hbx, unhide HX3⟩; clear hbx HSJ HX2 HB2 HS2 HX3 HE3 HK; obtain ⟨c0A, c1A⟩ := (unhide HLA).cells; obtain ⟨c0Y, c1Y⟩ := (unhide HLY).cells; )
        | fail)
      go_ret
      exact ⟨rfl, unhide HBU⟩
end Go.Proofs.Ytbahfpcfjhifbaa
