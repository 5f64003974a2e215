/- ObjectNames and ObjectOrder: the walks (written by mkon.py). -/
import Derived.Test.YtkcbljmjhlnjpaaQ24
namespace Go.Proofs.Ytkcbljmjhlnjpaa
open Go.RowKit Go.Lib
theorem kTwin {o : Ot} {v : Sv} {n m : Nat} (u : World) (h : Sx u o.st v n m) : Calls Try.prog 13 #[obV o.key v n m] u fun e u' => ∃ x, e = .returned (obV o.key x n m) ∧ Sx u' o.st x n m ∧ Below u.heap.size u u' := by
  refine (lTwin o v n m u h).mono ?_
  rintro e u' ⟨x, h1, h2, h3⟩
  exact ⟨x, h1, ⟨h2.sat h.sat.fit h.sat.seen.len h.sat.sibs.len, h.en, h.em⟩, h3⟩
/- one text below another -/
theorem bl_cons (a b : UInt8) (x y : List UInt8) : Op.bytesLess (a :: x) (b :: y) = (decide (a < b) || ((a == b) && Op.bytesLess x y)) := rfl
theorem fix2 (p : Nat) : W.fixB p 2 = [UInt8.ofNat (p / 256), UInt8.ofNat p] := by
  unfold W.fixB
  simp [List.range, List.range.loop]
theorem u8_lt {a b : Nat} (ha : a < 256) (hb : b < 256) : decide (UInt8.ofNat a < UInt8.ofNat b) = decide (a < b) := by
  have : UInt8.ofNat a < UInt8.ofNat b ↔ a < b := by
    rw [UInt8.lt_iff_toNat_lt]
    simp [Nat.mod_eq_of_lt ha, Nat.mod_eq_of_lt hb]
  simp only [this]
theorem u8_eq {a b : Nat} (ha : a < 256) (hb : b < 256) : (UInt8.ofNat a == UInt8.ofNat b) = decide (a = b) := by
  have : UInt8.ofNat a = UInt8.ofNat b ↔ a = b := by
    rw [← UInt8.toNat_inj]
    simp [Nat.mod_eq_of_lt ha, Nat.mod_eq_of_lt hb]
  rw [Bool.eq_iff_iff, beq_iff_eq, this, decide_eq_true_iff]
theorem ofNat_mod (p : Nat) : UInt8.ofNat p = UInt8.ofNat (p % 256) := by
  rw [← UInt8.toNat_inj]; simp
theorem cell_toList (k : ByteArray) : (cellK k).toList = UInt8.ofNat (plN k / 256) :: UInt8.ofNat (plN k % 256) :: k.toList := by
  have h1 : ∀ b : ByteArray, b.toList = b.data.toList := fun b => ByteArray.toList_eq b
  rw [h1, h1]
  unfold cellK
  rw [fix2, ofNat_mod (plN k)]
  rfl
theorem cell_less (k l : ByteArray) : Op.bytesLess (cellK k).toList (cellK l).toList = (decide (plN k < plN l) || (decide (plN k = plN l) && Op.bytesLess k.toList l.toList)) := by
  have h1 := plN_lt k
  have h2 := plN_lt l
  rw [cell_toList, cell_toList, bl_cons, bl_cons, u8_lt (by omega) (by omega), u8_lt (by omega) (by omega), u8_eq (by omega) (by omega), u8_eq (by omega) (by omega)]
  generalize plN k = p at *
  generalize plN l = q at *
  generalize Op.bytesLess k.toList l.toList = b
  rcases Nat.lt_trichotomy p q with h | h | h
  · rw [decide_eq_true h]
    by_cases h3 : p / 256 < q / 256
    · simp [h3]
    · have h4 : p / 256 = q / 256 := by omega
      have h5 : p % 256 < q % 256 := by omega
      simp [h4, h5]
  · subst h; simp
  · have h3 : ¬ p / 256 < q / 256 := by omega
    have h4 : ¬ p < q := by omega
    have h5 : ¬ p = q := by omega
    by_cases h6 : p / 256 = q / 256
    · have h7 : ¬ p % 256 < q % 256 := by omega
      have h8 : ¬ p % 256 = q % 256 := by omega
      simp [h4, h5, h6, h7, h8]
    · simp [h3, h4, h5, h6]
theorem cell_same (k l : ByteArray) : ((cellK k).toList == (cellK l).toList) = (k.toList == l.toList) := by
  rw [Bool.eq_iff_iff, beq_iff_eq, beq_iff_eq]
  constructor
  · intro h
    rw [cell_toList, cell_toList] at h
    exact (List.cons.inj (List.cons.inj h).2).2
  · intro h
    rw [ba_list h]
set_option maxRecDepth 100000 in
set_option maxHeartbeats 8000000 in
theorem order13_walk (a b : Ot) (va vb : Sv) (u : World) (ha : SAt u a.st va) (hb : SAt u b.st vb) : Calls Try.prog 10 #[obV a.key va a.st.seen.length a.st.sibs.length, obV b.key vb b.st.seen.length b.st.sibs.length] u fun e u' => e = .returned (.bool true) ∧ Below u.heap.size u u' := by
  obtain ⟨N, hN⟩ : ∃ N, N = u.heap.size := ⟨_, rfl⟩
  have HN := hide hN
  obtain ⟨na, hna⟩ : ∃ n, n = a.st.seen.length := ⟨_, rfl⟩
  obtain ⟨ma, hma⟩ : ∃ n, n = a.st.sibs.length := ⟨_, rfl⟩
  obtain ⟨nb, hnb⟩ : ∃ n, n = b.st.seen.length := ⟨_, rfl⟩
  obtain ⟨mb, hmb⟩ : ∃ n, n = b.st.sibs.length := ⟨_, rfl⟩
  have HSA : Hid (Sx u a.st va na ma) := ⟨ha, hna, hma⟩
  have HSB : Hid (Sx u b.st vb nb mb) := ⟨hb, hnb, hmb⟩
  rw [← hna, ← hma, ← hnb, ← hmb, ← hN]
  clear hN hna hma hnb hmb ha hb
  have HU : Hid (∀ W : World, Below N u W → Below u.heap.size u W) := fun W hW => by rw [← unhide HN]; exact hW
  obtain ⟨⟨xk, xz, e⟩, hx⟩ : ∃ p, packV a = p := ⟨_, rfl⟩
  obtain ⟨⟨yk, yz, f⟩, hy⟩ : ∃ p, packV b = p := ⟨_, rfl⟩
  obtain ⟨pa, hpa⟩ : ∃ p : Int, p = if keyE a.key = 0 then (plN a.key : Int) else 0 := ⟨_, rfl⟩
  obtain ⟨pb, hpb⟩ : ∃ p : Int, p = if keyE b.key = 0 then (plN b.key : Int) else 0 := ⟨_, rfl⟩
  obtain ⟨ga, hga⟩ : ∃ g, g = keyE a.key := ⟨_, rfl⟩
  obtain ⟨gb, hgb⟩ : ∃ g, g = keyE b.key := ⟨_, rfl⟩
  have HQA := hide (oPlace a.key)
  have HQB := hide (oPlace b.key)
  have HKA := hide (oKey a.key)
  have HKB := hide (oKey b.key)
  rw [← hpa, ← hga] at HQA
  rw [← hpb, ← hgb] at HQB
  rw [← hga] at HKA
  rw [← hgb] at HKB
  have HPA := hide hx
  have HPB := hide hy
  have HXA := hide hx
  have HXB := hide hy
  have HGA := hide hga
  have HGB := hide hgb
  have HVA := hide hpa
  have HVB := hide hpb
  clear hx hy hpa hpb hga hgb
  have HE0 : Hid (e = 0 → keyE a.key = 0 ∧ xk = cellK a.key) := fun he => by
    have h := unhide HXA
    rw [he] at h
    unfold packV at h
    by_cases hc : ckE a = 0
    · rw [if_pos hc] at h
      split at h
      · cases h
      · cases h; exact ⟨keyE_zero.2 (ck_zero.1 hc).1, rfl⟩
    · rw [if_neg hc] at h; exact absurd (Prod.mk.inj (Prod.mk.inj h).2).2 hc
  have HF0 : Hid (f = 0 → keyE b.key = 0 ∧ yk = cellK b.key) := fun he => by
    have h := unhide HXB
    rw [he] at h
    unfold packV at h
    by_cases hc : ckE b = 0
    · rw [if_pos hc] at h
      split at h
      · cases h
      · cases h; exact ⟨keyE_zero.2 (ck_zero.1 hc).1, rfl⟩
    · rw [if_neg hc] at h; exact absurd (Prod.mk.inj (Prod.mk.inj h).2).2 hc
  clear HXA HXB
  go_enter Try.func10, Try.ntmps10
  go_upto_region 7 with (first
    | ((with_reducible refine wpList_box_ob (by rfl) (.tmp 0) (by rfl) (some 2) (by rfl) (N) (unhide HN) a.key va na ma (by with_unfolding_all rfl) ?_); intro B1 HY1 HA1 HZ1; simp only [Act.put, List.setIfInBounds_toArray, List.set_cons_zero, List.set_cons_succ])
    | ((with_reducible refine wpList_box_ob (by rfl) (.tmp 1) (by rfl) (some 3) (by rfl) (N + 1) (unhide HZ1).symm b.key vb nb mb (by with_unfolding_all rfl) ?_); intro B2 HY2 HA2 HZ2; simp only [Act.put, List.setIfInBounds_toArray, List.set_cons_zero, List.set_cons_succ]; have HBU : Hid (Below N u B2) := (unhide HA1).trans ((unhide HA2).mono (by omega)); have HLA : Hid (Lo B2 (N) a va na ma) := ⟨(unhide HSA).below (unhide HU _ (unhide HBU)), ((unhide HA2).block (N) (by omega)).trans (unhide HY1)⟩; have HLB : Hid (Lo B2 (N + 1) b vb nb mb) := ⟨(unhide HSB).below (unhide HU _ (unhide HBU)), unhide HY2⟩; have HNW : Hid (N ≤ B2.heap.size) := (by show N ≤ B2.heap.size; rw [unhide HZ2]; omega); clear HY1 HA1 HZ1 HY2 HA2 HZ2)
    | (go_at_call 27; refine (lWorks B2).mono ?_; rintro e U1 ⟨rfl, hb⟩; replace HLA := hide ((unhide HLA).below hb); replace HLB := hide ((unhide HLB).below hb); replace HBU : Hid (Below N u U1) := (unhide HBU).trans (hb.mono (unhide HNW)); replace HNW : Hid (N ≤ U1.heap.size) := Nat.le_trans (unhide HNW) hb.size; clear hb; obtain ⟨c0A, c1A, c2A⟩ := (unhide HLA).cells; obtain ⟨c0B, c1B, c2B⟩ := (unhide HLB).cells; )
    | (go_at_call 13; refine (kTwin U1 (unhide HLA).toSx).mono ?_; rintro e U2 ⟨x1, rfl, hs, hb⟩; clear c0A c1A c2A c0B c1B c2B; replace HLA := hide ((unhide HLA).below hb); replace HLB := hide ((unhide HLB).below hb); replace HBU : Hid (Below N u U2) := (unhide HBU).trans (hb.mono (unhide HNW)); replace HNW : Hid (N ≤ U2.heap.size) := Nat.le_trans (unhide HNW) hb.size; have HT := hide hs; clear hs; clear hb; obtain ⟨c0A, c1A, c2A⟩ := (unhide HLA).cells; obtain ⟨c0B, c1B, c2B⟩ := (unhide HLB).cells; )
    | (go_at_call 28; refine (oPack (o := a) (unhide HT) _ _ _ (unhide HPA)).mono ?_; rintro e U3 ⟨rfl, hb⟩; clear c0A c1A c2A c0B c1B c2B; replace HLA := hide ((unhide HLA).below hb); replace HLB := hide ((unhide HLB).below hb); replace HT := hide ((unhide HT).below hb); replace HBU : Hid (Below N u U3) := (unhide HBU).trans (hb.mono (unhide HNW)); replace HNW : Hid (N ≤ U3.heap.size) := Nat.le_trans (unhide HNW) hb.size; clear HT HPA; clear hb; obtain ⟨c0A, c1A, c2A⟩ := (unhide HLA).cells; obtain ⟨c0B, c1B, c2B⟩ := (unhide HLB).cells; )
    | ((with_reducible refine wpList_alloc_ce (by rfl) (by rfl) (some 5) (by rfl) _ rfl ?_); intro U4 HY HA HZ; obtain ⟨KX, hKX⟩ : ∃ k, k = U3.heap.size := ⟨_, rfl⟩; rw [← hKX] at HY HA HZ ⊢; have HEKX := hide hKX; clear hKX; simp only [Act.put, List.setIfInBounds_toArray, List.set_cons_zero, List.set_cons_succ])
    | ((with_reducible refine wpList_store_ce (by rfl) (.tmp 5) (.tmp 19) (by rfl) KX xk xz (by with_unfolding_all rfl) (by with_unfolding_all rfl) _ _ (unhide HY) ?_); intro U5 HYY HEE; simp only [Act.put]; have hb : Below U3.heap.size U3 U5 := (by rw [unhide HEE, ← unhide HEKX]; exact belowRow (unhide HA) (Nat.le_refl _) _); clear c0A c1A c2A c0B c1B c2B; replace HLA := hide ((unhide HLA).below hb); replace HLB := hide ((unhide HLB).below hb); replace HBU : Hid (Below N u U5) := (unhide HBU).trans (hb.mono (unhide HNW)); replace HNW : Hid (N ≤ U5.heap.size) := Nat.le_trans (unhide HNW) hb.size; have HCX := HYY; clear hb HY HA HZ HYY HEE HEKX; obtain ⟨c0A, c1A, c2A⟩ := (unhide HLA).cells; obtain ⟨c0B, c1B, c2B⟩ := (unhide HLB).cells; obtain ⟨c0X, c1X⟩ := ce_cells (unhide HCX); )
    | (go_at_call 13; refine (kTwin U5 (unhide HLB).toSx).mono ?_; rintro e U6 ⟨x2, rfl, hs, hb⟩; clear c0A c1A c2A c0B c1B c2B c0X c1X; replace HLA := hide ((unhide HLA).below hb); replace HLB := hide ((unhide HLB).below hb); replace HCX := hide (box_below (unhide HCX) hb); replace HBU : Hid (Below N u U6) := (unhide HBU).trans (hb.mono (unhide HNW)); replace HNW : Hid (N ≤ U6.heap.size) := Nat.le_trans (unhide HNW) hb.size; have HT := hide hs; clear hs; clear hb; obtain ⟨c0A, c1A, c2A⟩ := (unhide HLA).cells; obtain ⟨c0B, c1B, c2B⟩ := (unhide HLB).cells; obtain ⟨c0X, c1X⟩ := ce_cells (unhide HCX); )
    | (go_at_call 28; refine (oPack (o := b) (unhide HT) _ _ _ (unhide HPB)).mono ?_; rintro e U7 ⟨rfl, hb⟩; clear c0A c1A c2A c0B c1B c2B c0X c1X; replace HLA := hide ((unhide HLA).below hb); replace HLB := hide ((unhide HLB).below hb); replace HCX := hide (box_below (unhide HCX) hb); replace HT := hide ((unhide HT).below hb); replace HBU : Hid (Below N u U7) := (unhide HBU).trans (hb.mono (unhide HNW)); replace HNW : Hid (N ≤ U7.heap.size) := Nat.le_trans (unhide HNW) hb.size; clear HT HPB; clear hb; obtain ⟨c0A, c1A, c2A⟩ := (unhide HLA).cells; obtain ⟨c0B, c1B, c2B⟩ := (unhide HLB).cells; obtain ⟨c0X, c1X⟩ := ce_cells (unhide HCX); )
    | ((with_reducible refine wpList_alloc_ce (by rfl) (by rfl) (some 7) (by rfl) _ rfl ?_); intro U8 HY HA HZ; obtain ⟨KY, hKY⟩ : ∃ k, k = U7.heap.size := ⟨_, rfl⟩; rw [← hKY] at HY HA HZ ⊢; have HEKY := hide hKY; clear hKY; simp only [Act.put, List.setIfInBounds_toArray, List.set_cons_zero, List.set_cons_succ])
    | ((with_reducible refine wpList_store_ce (by rfl) (.tmp 7) (.tmp 25) (by rfl) KY yk yz (by with_unfolding_all rfl) (by with_unfolding_all rfl) _ _ (unhide HY) ?_); intro U9 HYY HEE; simp only [Act.put]; have hb : Below U7.heap.size U7 U9 := (by rw [unhide HEE, ← unhide HEKY]; exact belowRow (unhide HA) (Nat.le_refl _) _); clear c0A c1A c2A c0B c1B c2B c0X c1X; replace HLA := hide ((unhide HLA).below hb); replace HLB := hide ((unhide HLB).below hb); replace HCX := hide (box_below (unhide HCX) hb); replace HBU : Hid (Below N u U9) := (unhide HBU).trans (hb.mono (unhide HNW)); replace HNW : Hid (N ≤ U9.heap.size) := Nat.le_trans (unhide HNW) hb.size; have HCY := HYY; clear hb HY HA HZ HYY HEE HEKY; obtain ⟨c0A, c1A, c2A⟩ := (unhide HLA).cells; obtain ⟨c0B, c1B, c2B⟩ := (unhide HLB).cells; obtain ⟨c0X, c1X⟩ := ce_cells (unhide HCX); obtain ⟨c0Y, c1Y⟩ := ce_cells (unhide HCY); )
    | (go_at_call 11; refine (unhide HQA U9).mono ?_; rintro e U10 ⟨rfl, hb⟩; clear c0A c1A c2A c0B c1B c2B c0X c1X c0Y c1Y; replace HLA := hide ((unhide HLA).below hb); replace HLB := hide ((unhide HLB).below hb); replace HCX := hide (box_below (unhide HCX) hb); replace HCY := hide (box_below (unhide HCY) hb); replace HBU : Hid (Below N u U10) := (unhide HBU).trans (hb.mono (unhide HNW)); replace HNW : Hid (N ≤ U10.heap.size) := Nat.le_trans (unhide HNW) hb.size; clear HQA; clear hb; obtain ⟨c0A, c1A, c2A⟩ := (unhide HLA).cells; obtain ⟨c0B, c1B, c2B⟩ := (unhide HLB).cells; obtain ⟨c0X, c1X⟩ := ce_cells (unhide HCX); obtain ⟨c0Y, c1Y⟩ := ce_cells (unhide HCY); )
    | (go_at_call 11; refine (unhide HQB U10).mono ?_; rintro e U11 ⟨rfl, hb⟩; clear c0A c1A c2A c0B c1B c2B c0X c1X c0Y c1Y; replace HLA := hide ((unhide HLA).below hb); replace HLB := hide ((unhide HLB).below hb); replace HCX := hide (box_below (unhide HCX) hb); replace HCY := hide (box_below (unhide HCY) hb); replace HBU : Hid (Below N u U11) := (unhide HBU).trans (hb.mono (unhide HNW)); replace HNW : Hid (N ≤ U11.heap.size) := Nat.le_trans (unhide HNW) hb.size; clear HQB; clear hb; obtain ⟨c0A, c1A, c2A⟩ := (unhide HLA).cells; obtain ⟨c0B, c1B, c2B⟩ := (unhide HLB).cells; obtain ⟨c0X, c1X⟩ := ce_cells (unhide HCX); obtain ⟨c0Y, c1Y⟩ := ce_cells (unhide HCY); )
    | fail)
  have hkk : ∀ k : ByteArray, keyE k = 0 ∨ keyE k = 130 := fun k => by unfold keyE; split <;> simp
  have hgA : ga = 0 ∨ ga = 130 := by rw [unhide HGA]; exact hkk _
  have hgB : gb = 0 ∨ gb = 130 := by rw [unhide HGB]; exact hkk _
  clear hkk
  have hka : ga = 0 → (1 : Int) ≤ (a.key.size : Int) ∧ (a.key.size : Int) ≤ 32 := fun h => by
    rw [unhide HGA] at h
    have := keyE_zero.1 h
    omega
  have hkn : ga = 130 → ¬ ((1 : Int) ≤ (a.key.size : Int)) ∨ ((1 : Int) ≤ (a.key.size : Int) ∧ ¬ (a.key.size : Int) ≤ 32) := fun h => by
    rw [unhide HGA] at h
    unfold keyE at h
    split at h
    · cases h
    · omega
  by_cases he : e = 0
  · obtain ⟨h1, hxk⟩ := unhide HE0 he
    have hg1 : ga = 0 := (unhide HGA).trans h1
    obtain ⟨hs1, hs2⟩ := hka hg1
    by_cases hf : f = 0
    · obtain ⟨h2, hyk⟩ := unhide HF0 hf
      have hg2 : gb = 0 := (unhide HGB).trans h2
      have hv1 : pa = (plN a.key : Int) := by rw [unhide HVA, if_pos h1]
      have hv2 : pb = (plN b.key : Int) := by rw [unhide HVB, if_pos h2]
      have hl := cell_less a.key b.key
      have hs := cell_same a.key b.key
      rw [← hxk, ← hyk] at hl hs
      have hkey : plN a.key ≠ plN b.key → (a.key.toList == b.key.toList) = false := fun hp => by
        rw [← Bool.not_eq_true]
        intro h
        exact hp (by rw [toList_inj h])
      subst he hf hg1 hg2 hv1 hv2
      clear HE0 HF0 HGA HGB HVA HVB hka hkn hgA hgB h1 h2 hxk hyk
      generalize plN a.key = p at *
      generalize plN b.key = q at *
      rcases Nat.lt_trichotomy p q with h | h | h
      · have hkf := hkey (by omega)
        rw [decide_eq_true h, Bool.true_or] at hl
        rw [hkf] at hs
        have hi : (p : Int) < (q : Int) := by omega
        clear h hkey
        go_wp2_with (first
          | (go_at_call 12; refine (unhide HKA _).mono ?_; rintro e V1 ⟨rfl, rfl⟩; clear HKA)
          | (go_at_call 12; refine (unhide HKB _).mono ?_; rintro e V2 ⟨rfl, rfl⟩)
          | fail)
        go_ret
        exact ⟨rfl, unhide HBU⟩
      · subst h
        clear hkey
        rw [decide_eq_false (Nat.lt_irrefl _), decide_eq_true rfl, Bool.false_or, Bool.true_and] at hl
        have hi : ¬ (p : Int) < (p : Int) := by omega
        cases hL2 : Op.bytesLess a.key.toList b.key.toList <;> cases hS2 : (a.key.toList == b.key.toList) <;> rw [hL2] at hl <;> rw [hS2] at hs
        · go_wp2_with (first
            | (go_at_call 12; refine (unhide HKA _).mono ?_; rintro e V1 ⟨rfl, rfl⟩; clear HKA)
            | (go_at_call 12; refine (unhide HKB _).mono ?_; rintro e V2 ⟨rfl, rfl⟩)
            | fail)
          go_ret
          exact ⟨rfl, unhide HBU⟩
        · go_wp2_with (first
            | (go_at_call 12; refine (unhide HKA _).mono ?_; rintro e V1 ⟨rfl, rfl⟩; clear HKA)
            | (go_at_call 12; refine (unhide HKB _).mono ?_; rintro e V2 ⟨rfl, rfl⟩)
            | fail)
          go_ret
          exact ⟨rfl, unhide HBU⟩
        · go_wp2_with (first
            | (go_at_call 12; refine (unhide HKA _).mono ?_; rintro e V1 ⟨rfl, rfl⟩; clear HKA)
            | (go_at_call 12; refine (unhide HKB _).mono ?_; rintro e V2 ⟨rfl, rfl⟩)
            | fail)
          go_ret
          exact ⟨rfl, unhide HBU⟩
        · go_wp2_with (first
            | (go_at_call 12; refine (unhide HKA _).mono ?_; rintro e V1 ⟨rfl, rfl⟩; clear HKA)
            | (go_at_call 12; refine (unhide HKB _).mono ?_; rintro e V2 ⟨rfl, rfl⟩)
            | fail)
          go_ret
          exact ⟨rfl, unhide HBU⟩
      · have hkf := hkey (by omega)
        rw [decide_eq_false (show ¬ p < q by omega), decide_eq_false (show ¬ p = q by omega), Bool.false_or, Bool.false_and] at hl
        rw [hkf] at hs
        have hi : ¬ (p : Int) < (q : Int) := by omega
        have hi2 : ((p : Int) == (q : Int)) = false := beq_eq_false_iff_ne.2 (by omega)
        have hin : ¬ p < q := by omega
        have hin2 : ¬ p = q := by omega
        clear h hkey
        go_wp2_with (first
          | (go_at_call 12; refine (unhide HKA _).mono ?_; rintro e V1 ⟨rfl, rfl⟩; clear HKA)
          | (go_at_call 12; refine (unhide HKB _).mono ?_; rintro e V2 ⟨rfl, rfl⟩)
          | fail)
        go_ret
        exact ⟨rfl, unhide HBU⟩
    · have hf' : (f != 0) = true := by simpa using hf
      subst he hg1
      clear HE0 HF0 HGA HGB HVA HVB hka hkn hgA h1 hxk hf
      rcases hgB with rfl | rfl
      · go_wp2_with (first
          | (go_at_call 12; refine (unhide HKA _).mono ?_; rintro e V1 ⟨rfl, rfl⟩; clear HKA)
          | (go_at_call 12; refine (unhide HKB _).mono ?_; rintro e V2 ⟨rfl, rfl⟩)
          | fail)
        go_ret
        exact ⟨rfl, unhide HBU⟩
      · go_wp2_with (first
          | (go_at_call 12; refine (unhide HKA _).mono ?_; rintro e V1 ⟨rfl, rfl⟩; clear HKA)
          | (go_at_call 12; refine (unhide HKB _).mono ?_; rintro e V2 ⟨rfl, rfl⟩)
          | fail)
        go_ret
        exact ⟨rfl, unhide HBU⟩
  · have he' : (e != 0) = true := by simpa using he
    clear HE0 HF0 HGA HGB HVA HVB he
    rcases hgA with rfl | rfl
    · obtain ⟨hs1, hs2⟩ := hka rfl
      clear hka hkn
      rcases hgB with rfl | rfl
      · go_wp2_with (first
          | (go_at_call 12; refine (unhide HKA _).mono ?_; rintro e V1 ⟨rfl, rfl⟩; clear HKA)
          | (go_at_call 12; refine (unhide HKB _).mono ?_; rintro e V2 ⟨rfl, rfl⟩)
          | fail)
        go_ret
        exact ⟨rfl, unhide HBU⟩
      · go_wp2_with (first
          | (go_at_call 12; refine (unhide HKA _).mono ?_; rintro e V1 ⟨rfl, rfl⟩; clear HKA)
          | (go_at_call 12; refine (unhide HKB _).mono ?_; rintro e V2 ⟨rfl, rfl⟩)
          | fail)
        go_ret
        exact ⟨rfl, unhide HBU⟩
    · rcases hkn rfl with hs1 | ⟨hs1, hs2⟩
      · clear hka hkn
        rcases hgB with rfl | rfl
        · go_wp2_with (first
            | (go_at_call 12; refine (unhide HKA _).mono ?_; rintro e V1 ⟨rfl, rfl⟩; clear HKA)
            | (go_at_call 12; refine (unhide HKB _).mono ?_; rintro e V2 ⟨rfl, rfl⟩)
            | fail)
          go_ret
          exact ⟨rfl, unhide HBU⟩
        · go_wp2_with (first
            | (go_at_call 12; refine (unhide HKA _).mono ?_; rintro e V1 ⟨rfl, rfl⟩; clear HKA)
            | (go_at_call 12; refine (unhide HKB _).mono ?_; rintro e V2 ⟨rfl, rfl⟩)
            | fail)
          go_ret
          exact ⟨rfl, unhide HBU⟩
      · clear hka hkn
        rcases hgB with rfl | rfl
        · go_wp2_with (first
            | (go_at_call 12; refine (unhide HKA _).mono ?_; rintro e V1 ⟨rfl, rfl⟩; clear HKA)
            | (go_at_call 12; refine (unhide HKB _).mono ?_; rintro e V2 ⟨rfl, rfl⟩)
            | fail)
          go_ret
          exact ⟨rfl, unhide HBU⟩
        · go_wp2_with (first
            | (go_at_call 12; refine (unhide HKA _).mono ?_; rintro e V1 ⟨rfl, rfl⟩; clear HKA)
            | (go_at_call 12; refine (unhide HKB _).mono ?_; rintro e V2 ⟨rfl, rfl⟩)
            | fail)
          go_ret
          exact ⟨rfl, unhide HBU⟩
end Go.Proofs.Ytkcbljmjhlnjpaa
