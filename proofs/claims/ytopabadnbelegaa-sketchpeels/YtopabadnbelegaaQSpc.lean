/- Sketches: the walk of Peels. -/
import Derived.Test.YtopabadnbelegaaQSpd
namespace Go.Proofs.Ytopabadnbelegaa.K
open Go.RowKit Go.Lib
open Go.Proofs.Ytopabadnbelegaa.S (Rec)
theorem kFromBad (n c : Nat) (ao : Option Addr) (hn : n < 3 ∨ 256 < n) (u : World) : Calls Try.prog 21 #[.slice ao n c] u fun e u' => e = .returned (.tuple #[.pointer none, .int .i64 1]) ∧ u' = u := by
  have HK := hide (kNewBad (n : Int) (by omega) u)
  clear hn
  go_enter Try.func21, Try.ntmps21
  go_wp2_with (first
    | (go_at_call 12; refine (unhide HK).mono ?_; rintro e w1 ⟨rfl, hw⟩; obtain rfl := hw.symm)
    | fail)
  go_ret2
  exact ⟨rfl, rfl⟩
/-- a sketch beside two lists -/
structure Pp (u w : World) (B b h n : Nat) (m : List Ce) (xs ys : List BV) (xo yo : Option Addr) (cx cy : Nat) : Prop where
  t : Sk w b h n m
  x : RW.Own w B xs xo cx
  y : RW.Own w B ys yo cy
  nx : ∀ ad : Addr, xo = some ad → ad.block ≠ h
  ny : ∀ ad : Addr, yo = some ad → ad.block ≠ h
  bel : Below B u w
  hh : B ≤ h
  hB : B ≤ w.heap.size
section
variable {u w w' : World} {B b h n : Nat} {m m' : List Ce} {xs ys : List BV} {xo yo : Option Addr} {cx cy : Nat}
theorem Pp.below (k : Pp u w B b h n m xs ys xo yo cx cy) (hb : Below w.heap.size w w') : Pp u w' B b h n m xs ys xo yo cx cy :=
  ⟨k.t.below hb, k.x.below hb, k.y.below hb, k.nx, k.ny, k.bel.trans (hb.mono k.hB), k.hh, Nat.le_trans k.hB hb.size⟩
theorem Pp.lay (k : Pp u w B b h n m xs ys xo yo cx cy) (ha : Alt w w' h) (hs : Sk w' b h n m') : Pp u w' B b h n m' xs ys xo yo cx cy := by
  refine ⟨hs, S.own_keep k.x fun g hg => ?_, S.own_keep k.y fun g hg => ?_, k.nx, k.ny, k.bel.trans (ha.below k.hh k.hB), k.hh, Nat.le_trans k.hB ha.size⟩
  · obtain ⟨ad, h1, h2⟩ := Option.map_eq_some_iff.1 (own_ad k.x hg)
    exact ha.block g (k.x.lt g hg).2 (by rw [← h2]; exact k.nx ad h1)
  · obtain ⟨ad, h1, h2⟩ := Option.map_eq_some_iff.1 (own_ad k.y hg)
    exact ha.block g (k.y.lt g hg).2 (by rw [← h2]; exact k.ny ad h1)
theorem Pp.drewN (k : Pp u w B b h n m xs ys xo yo cx cy) (z : Nat) : Pp u (w.drewN z) B b h n m xs ys xo yo cx cy := k.below (S.belowDrewN (Below.refl _ _) z)
end
theorem mkPp {u W5 W6 W7 : World} {B b h n : Nat} {m : List Ce} {xs ys : List BV} {xo yo : Option Addr} {cx cy : Nat} (h5 : Below B u W5) (hB5 : B ≤ W5.heap.size) (hx : RW.Own W6 W5.heap.size xs xo cx) (hy : RW.Own W6 W5.heap.size ys yo cy) (h6 : Below W5.heap.size W5 W6)
    (hs : Sk W7 b h n m) (h7 : Below W6.heap.size W6 W7) (hh : W6.heap.size ≤ h) : Pp u W7 B b h n m xs ys xo yo cx cy := by
  refine ⟨hs, (hx.below h7).down hB5, (hy.below h7).down hB5, fun ad e => ?_, fun ad e => ?_, (h5.trans (h6.mono hB5)).trans (h7.mono (Nat.le_trans hB5 h6.size)), ?_, ?_⟩
  · have h4 : (Value.slice xo xs.length cx).ownBlock = some ad.block := by rw [e]; rfl
    have := (hx.lt ad.block h4).2
    omega
  · have h4 : (Value.slice yo ys.length cy).ownBlock = some ad.block := by rw [e]; rfl
    have := (hy.lt ad.block h4).2
    omega
  · have := h6.size; omega
  · have := h6.size; have := h7.size; omega
theorem srtB_len (m : List BV) : (srtB m).length = m.length := by unfold srtB; exact List.length_mergeSort _
set_option maxRecDepth 100000 in
set_option maxHeartbeats 16000000 in
theorem peels16_walk (l : List Ce) (ao : Option Addr) (c : Nat) (u : World) (h : RC.At0 u l ao c) (hl : l.length * 24 ≤ 140737488355328) : Calls Try.prog 6 #[.slice ao l.length c] u fun e u' => e = .returned (.bool true) ∧ Below u.heap.size u u' := by
  have HW := hide (lWorks u)
  have HH := hide h
  obtain ⟨n, hn⟩ : ∃ n, n = l.length := ⟨_, rfl⟩
  have HL : Hid ((([] : List Ce).length + l.length) * 24 ≤ 140737488355328) := by show (0 + l.length) * 24 ≤ _; omega
  have hni : (n : Int) ≤ 5864062014805 := by omega
  have HN := hide hn
  rw [← hn]
  obtain ⟨B, hB⟩ : ∃ B, B = u.heap.size := ⟨_, rfl⟩
  rw [← hB] at HW ⊢
  have HB := hide hB
  rcases Nat.lt_or_ge n 3 with h3 | h3
  · have hlo : (n : Int) < 3 := by omega
    have HF := hide (fun k w (xo : Option Addr) => kFromBad n k xo (.inl h3) w)
    clear h hn hB hl
    go_enter Try.func6, Try.ntmps6
    go_wp2_with (first
      | (go_at_call 17; refine (unhide HW).mono ?_; rintro e W1 ⟨rfl, hb⟩; have HB1 := hide hb; have HZ1 : Hid (B ≤ W1.heap.size) := (by rw [unhide HB] at hb ⊢; exact hb.size); have HA1 := hide ((unhide HH).below (by rw [unhide HB] at hb; exact hb.trans (((Below.refl W1.heap.size W1).alloc (Nat.le_refl _) (.cells #[] 57)).mono (by have := hb.size; omega)))); have HS1 := hide (show W1.heap.size ≤ (W1.alloc (.cells #[] 57)).heap.size by rw [World.size_alloc]; omega); clear hb HW)
      | (at_builtin; (with_reducible refine wpList_putC0 (by rfl) (.tmp 15) (.tmp 16) (by rfl) (some 17) (by rfl) W1.heap.size [] l 0 n rfl (unhide HN) (some ⟨W1.heap.size, 0, none⟩) ao 0 c (by with_unfolding_all rfl) (by with_unfolding_all rfl) (Own.empty W1 _ (Nat.le_refl _)) (unhide HA1) (unhide HL) (unhide HS1) ?_); intro x4 n4 c4 W4 HP4; simp only [Act.put, List.setIfInBounds_toArray, List.set_cons_zero, List.set_cons_succ]; have hn4 : n = n4 := ((unhide HP4).len.trans (unhide HN).symm).symm; subst hn4; have HB4 : Hid (Below B u W4) := ((unhide HB1).alloc (unhide HZ1) _).trans ((unhide HP4).below.mono (unhide HZ1)))
      | (go_at_call 21; refine (unhide HF _ _ _).mono ?_; rintro e W5 ⟨rfl, hw⟩; obtain rfl := hw.symm; clear hw)
      | fail)
    go_ret
    exact ⟨rfl, unhide HB4⟩
  rcases Nat.lt_or_ge 256 n with h256 | h256
  · have hlo : ¬ (n : Int) < 3 := by omega
    have hhi : (n : Int) > 256 := by omega
    have HF := hide (fun k w (xo : Option Addr) => kFromBad n k xo (.inr h256) w)
    clear h hn hB hl
    go_enter Try.func6, Try.ntmps6
    go_wp2_with (first
      | (go_at_call 17; refine (unhide HW).mono ?_; rintro e W1 ⟨rfl, hb⟩; have HB1 := hide hb; have HZ1 : Hid (B ≤ W1.heap.size) := (by rw [unhide HB] at hb ⊢; exact hb.size); have HA1 := hide ((unhide HH).below (by rw [unhide HB] at hb; exact hb.trans (((Below.refl W1.heap.size W1).alloc (Nat.le_refl _) (.cells #[] 57)).mono (by have := hb.size; omega)))); have HS1 := hide (show W1.heap.size ≤ (W1.alloc (.cells #[] 57)).heap.size by rw [World.size_alloc]; omega); clear hb HW)
      | (at_builtin; (with_reducible refine wpList_putC0 (by rfl) (.tmp 15) (.tmp 16) (by rfl) (some 17) (by rfl) W1.heap.size [] l 0 n rfl (unhide HN) (some ⟨W1.heap.size, 0, none⟩) ao 0 c (by with_unfolding_all rfl) (by with_unfolding_all rfl) (Own.empty W1 _ (Nat.le_refl _)) (unhide HA1) (unhide HL) (unhide HS1) ?_); intro x4 n4 c4 W4 HP4; simp only [Act.put, List.setIfInBounds_toArray, List.set_cons_zero, List.set_cons_succ]; have hn4 : n = n4 := ((unhide HP4).len.trans (unhide HN).symm).symm; subst hn4; have HB4 : Hid (Below B u W4) := ((unhide HB1).alloc (unhide HZ1) _).trans ((unhide HP4).below.mono (unhide HZ1)))
      | (go_at_call 21; refine (unhide HF _ _ _).mono ?_; rintro e W5 ⟨rfl, hw⟩; obtain rfl := hw.symm; clear hw)
      | fail)
    go_ret
    exact ⟨rfl, unhide HB4⟩
  have hlo : ¬ (n : Int) < 3 := by omega
  have hhi : ¬ (n : Int) > 256 := by omega
  have HH1 := hide (h.to (by omega))
  obtain ⟨r, hr⟩ : ∃ r, r = peelN l.length [] [] l := ⟨_, rfl⟩
  obtain ⟨M, L, cur⟩ := r
  have HPE := hide hr.symm
  have few := peel_few hr.symm
  have HWH := hide (peel_whole hr.symm)
  have HSM := hide (sort_all M (by omega))
  have HSL := hide (sort_all L (by omega))
  have HK := hide (fun w => kNew n (by omega) (by omega) w)
  obtain ⟨p, hp⟩ : ∃ p, p = M.length := ⟨_, rfl⟩
  obtain ⟨q, hq⟩ : ∃ q, q = L.length := ⟨_, rfl⟩
  have hpi : (p : Int) ≤ 256 := by omega
  have hqi : (q : Int) ≤ 256 := by omega
  have hpq : ¬ (p : Int) + (q : Int) > (n : Int) := by omega
  have HPM : Hid ((srtB M).length = p) := (srtB_len M).trans hp.symm
  have HQL : Hid ((srtB L).length = q) := (srtB_len L).trans hq.symm
  have HPN := hide hp
  have HQN := hide hq
  have H3 : Hid (3 ≤ l.length) := by show _ ≤ _; omega
  have H256 : Hid (l.length ≤ 256) := by show _ ≤ _; omega
  obtain ⟨wh, hwh⟩ : ∃ wh, wh = decide (cur = zerL cur.length) := ⟨_, rfl⟩
  have HWE := hide hwh
  clear h hn hB hl hr few hp hq hwh h3 h256
  go_enter Try.func6, Try.ntmps6
  go_wp2_with (first
    | (go_at_call 17; refine (unhide HW).mono ?_; rintro e W1 ⟨rfl, hb⟩; have HB1 := hide hb; have HZ1 : Hid (B ≤ W1.heap.size) := (by rw [unhide HB] at hb ⊢; exact hb.size); have HA1 := hide ((unhide HH).below (by rw [unhide HB] at hb; exact hb.trans (((Below.refl W1.heap.size W1).alloc (Nat.le_refl _) (.cells #[] 57)).mono (by have := hb.size; omega)))); have HS1 := hide (show W1.heap.size ≤ (W1.alloc (.cells #[] 57)).heap.size by rw [World.size_alloc]; omega); clear hb HW)
    | (at_builtin; (with_reducible refine wpList_putC0 (by rfl) (.tmp 15) (.tmp 16) (by rfl) (some 17) (by rfl) W1.heap.size [] l 0 n rfl (unhide HN) (some ⟨W1.heap.size, 0, none⟩) ao 0 c (by with_unfolding_all rfl) (by with_unfolding_all rfl) (Own.empty W1 _ (Nat.le_refl _)) (unhide HA1) (unhide HL) (unhide HS1) ?_); intro x4 n4 c4 W4 HP4; simp only [Act.put, List.setIfInBounds_toArray, List.set_cons_zero, List.set_cons_succ]; have hn4 : n = n4 := ((unhide HP4).len.trans (unhide HN).symm).symm; subst hn4; have HB4 : Hid (Below B u W4) := ((unhide HB1).alloc (unhide HZ1) _).trans ((unhide HP4).below.mono (unhide HZ1)); have ho4 : RC.Own W4 W1.heap.size l x4 c4 := (unhide HP4).own; have hf := kFrom l x4 c4 W4 (ho4.at (by have := unhide H256; omega)) (unhide H3) (unhide H256); clear ho4; rw [← unhide HN] at hf; have HF := hide hf; clear hf)
    | (go_at_call 21; refine (unhide HF).mono ?_; rintro e W5 ⟨a, g, rfl, hs, hb, h1, h2⟩; have hz4 : B ≤ W4.heap.size := Nat.le_trans (unhide HZ1) (by have := (unhide HP4).grown.size; have := unhide HS1; omega); have HB5 : Hid (Below B u W5) := (unhide HB4).trans (hb.mono hz4); have HZ5 : Hid (B ≤ W5.heap.size) := Nat.le_trans hz4 hb.size; have HS5 := hide hs; have hk := kPeel a g n l M L cur W5 hs (unhide HPE) (unhide HSM) (unhide HSL); rw [← unhide HPN, ← unhide HQN, ← unhide HWE] at hk; have HKP := hide hk; clear hs hb h1 h2 hz4 hk HF)
    | (go_at_call 11; refine (unhide HKP).mono ?_; rintro e W6 ⟨xo, cx, yo, cy, rfl, hx, hy, -, hb⟩; have HX6 := hide hx; have HY6 := hide hy; have HB6 := hide hb; have HS6 := hide ((unhide HS5).below hb); clear hx hy hb HKP)
    | (go_at_call 12; refine (unhide HK _).mono ?_; rintro e W7 ⟨b, h, rfl, hs, hb, h1, h2⟩; have HT7 := hide (mkPp (unhide HB5) (unhide HZ5) (unhide HX6) (unhide HY6) (unhide HB6) hs hb h2); have HS7 := hide ((unhide HS6).below hb); have hr7 := lRises (srtB M) xo cx W7 ((unhide HT7).x.at (by have := unhide HPM; omega)) (srtB_rise M); rw [unhide HPM] at hr7; have HR7 := hide hr7; clear hs hb h1 h2 hr7)
    | (go_at_call 22; refine (unhide HR7).mono ?_; rintro e W8 ⟨rfl, z8, hz8⟩; have HT8 : Hid (Pp u W8 B b h n (zerL n) (srtB M) (srtB L) xo yo cx cy) := (by rw [hz8]; exact (unhide HT7).drewN z8); have HS8 : Hid (Sk W8 a g n l) := (by rw [hz8]; exact (unhide HS7).below (S.belowDrewN (Below.refl _ _) z8)); have hr8 := lRises (srtB L) yo cy W8 ((unhide HT8).y.at (by have := unhide HQL; omega)) (srtB_rise L); rw [unhide HQL] at hr8; have HR8 := hide hr8; clear hz8 hr8 HR7)
    | (go_at_call 22; refine (unhide HR8).mono ?_; rintro e W9 ⟨rfl, z9, hz9⟩; have HT9 : Hid (Pp u W9 B b h n (zerL n) (srtB M) (srtB L) xo yo cx cy) := (by rw [hz9]; exact (unhide HT8).drewN z9); have hs9 : Sk W9 a g n l := (by rw [hz9]; exact (unhide HS8).below (S.belowDrewN (Below.refl _ _) z9)); have hc9 := kCells hs9; rw [← unhide HN] at hc9; have HC9 := hide hc9; clear hz9 hc9 hs9 HR8)
    | (go_at_call 13; refine (unhide HC9).mono ?_; rintro e WA ⟨tp, ct, rfl, ho, hb⟩; have HTA := hide ((unhide HT9).below hb); have hsa := lSameC l l tp ao ct c WA (ho.at (by have := unhide H256; omega)) ((unhide HH1).below (by have h9 := (unhide HTA).bel; rw [unhide HB] at h9; exact h9)); rw [← unhide HN, decide_eq_true rfl] at hsa; have HSA := hide hsa; clear ho hb hsa HC9)
    | (go_at_call 20; refine (unhide HSA).mono ?_; rintro e WB ⟨rfl, zb, hzb⟩; have HTB : Hid (Pp u WB B b h n (zerL n) (srtB M) (srtB L) xo yo cx cy) := (by rw [hzb]; exact (unhide HTA).drewN zb); clear hzb HSA)
    | fail)
  clear HT7 HT8 HT9 HTA HS5 HS6 HS7 HS8 HX6 HY6 HB6 HP4 HA1 HS1 HB1 HB4 HB5 HZ5 HZ1 HK HSM HSL HPE
  go_loopw [10] (fun s10 wr => ∃ i : Nat, i ≤ p ∧ s10 = .int .i64 (i : Int) ∧ Hid (Pp u wr B b h n (adds (zerL n) ((srtB M).take i)) (srtB M) (srtB L) xo yo cx cy)) (fun s10 _ => p - (intOf s10).toNat)
  case atStart => exact ⟨0, Nat.zero_le _, rfl, by rw [List.take_zero, adds_nil]; exact HTB⟩
  case round =>
    clear HTB
    obtain ⟨i, hi, rfl, HT⟩ := hrel
    by_cases hlt : i < p
    · have hii : (i : Int) < (p : Int) := by omega
      have hily : i < (srtB M).length := by rw [unhide HPM]; exact hlt
      obtain ⟨go, oo, rfl, ix1, c0⟩ := at_ixW ((unhide HT).x.at (by have := unhide HPM; omega)) i hily
      rw [unhide HPM] at ix1
      have HAD := hide (kAdd (srtB M)[i] (unhide HT).t)
      have HNX := hide (adds_take (zerL n) (srtB M) i hily)
      generalize (srtB M)[i] = y at *
      clear hily
      go_wp2_with (first
        | (go_at_call 8; refine (unhide HAD).mono ?_; rintro e X1 ⟨rfl, ha, hs⟩; have HX := hide ((unhide HT).lay ha hs); clear ha hs HAD)
        | fail)
      go_roundw
      case rel => exact ⟨i + 1, by omega, by go_num, by rw [unhide HNX]; exact HX⟩
      case measure => simp [intOf]; omega
    · have hii : ¬ (i : Int) < (p : Int) := by omega
      have hip : i = p := by omega
      have HT0 : Hid (Pp u wr B b h n (adds (zerL n) (srtB M)) (srtB M) (srtB L) xo yo cx cy) := by
        have h1 := unhide HT
        rw [hip, ← unhide HPM, List.take_length] at h1
        exact h1
      clear HT hip hlt hi
      go_wp2
      go_loopw [11] (fun s11 wv => ∃ i : Nat, i ≤ q ∧ s11 = .int .i64 (i : Int) ∧ Hid (Pp u wv B b h n (takes (adds (zerL n) (srtB M)) ((srtB L).take i)) (srtB M) (srtB L) xo yo cx cy)) (fun s11 _ => q - (intOf s11).toNat)
      case atStart => exact ⟨0, Nat.zero_le _, rfl, by rw [List.take_zero, takes_nil]; exact HT0⟩
      case round =>
        clear HT0 hii
        obtain ⟨j, hj, rfl, HT⟩ := hrel
        by_cases hlt : j < q
        · have hii : (j : Int) < (q : Int) := by omega
          have hily : j < (srtB L).length := by rw [unhide HQL]; exact hlt
          obtain ⟨go, oo, rfl, ix1, c0⟩ := at_ixW ((unhide HT).y.at (by have := unhide HQL; omega)) j hily
          rw [unhide HQL] at ix1
          have HTK := hide (kTake (srtB L)[j] (unhide HT).t)
          have HNX := hide (takes_take (adds (zerL n) (srtB M)) (srtB L) j hily)
          generalize (srtB L)[j] = y at *
          clear hily
          go_wp2_with (first
            | (go_at_call 9; refine (unhide HTK).mono ?_; rintro e X1 ⟨rfl, ha, hs⟩; have HX := hide ((unhide HT).lay ha hs); clear ha hs HTK)
            | fail)
          go_roundw
          case rel => exact ⟨j + 1, by omega, by go_num, by rw [unhide HNX]; exact HX⟩
          case measure => simp [intOf]; omega
        · have hii : ¬ (j : Int) < (q : Int) := by omega
          have hjq : j = q := by omega
          have HT1 : Hid (Pp u wr B b h n (takes (adds (zerL n) (srtB M)) (srtB L)) (srtB M) (srtB L) xo yo cx cy) := by
            have h1 := unhide HT
            rw [hjq, ← unhide HQL, List.take_length] at h1
            exact h1
          have hlen : (takes (adds (zerL n) (srtB M)) (srtB L)).length = n := by rw [takes_len, adds_len, zerL_len]
          have hc1 := kCells (unhide HT1).t
          rw [hlen] at hc1
          have HC1 := hide hc1
          have HLE := hide hlen
          clear HT hjq hlt hj hc1 hlen
          go_wp2_with (first
            | (go_at_call 13; refine (unhide HC1).mono ?_; rintro e WC ⟨tp, ct, rfl, ho, hb⟩; have HTC := hide ((unhide HT1).below hb); have hsa := lSameC (takes (adds (zerL n) (srtB M)) (srtB L)) l tp ao ct c WC (by have h8 := ho.at (by have := unhide HLE; have := unhide H256; have := unhide HN; omega); exact h8) ((unhide HH1).below (by have h9 := (unhide HTC).bel; rw [unhide HB] at h9; exact h9)); rw [unhide HLE, ← unhide HN] at hsa; have hwe : decide (takes (adds (zerL n) (srtB M)) (srtB L) = l) = wh := (by have h7 := unhide HWH; rw [← unhide HN] at h7; rw [← h7, unhide HWE]); rw [hwe] at hsa; have HSC := hide hsa; clear ho hb hsa hwe HC1)
            | (go_at_call 20; refine (unhide HSC).mono ?_; rintro e WD ⟨rfl, zd, hzd⟩; have HBD : Hid (Below B u WD) := (by rw [hzd]; exact ((unhide HTC).drewN zd).bel); clear hzd HSC)
            | fail)
          go_ret
          exact ⟨by cases wh <;> rfl, unhide HBD⟩
end Go.Proofs.Ytopabadnbelegaa.K
