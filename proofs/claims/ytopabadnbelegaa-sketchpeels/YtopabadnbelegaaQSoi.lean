/- Sorting numbers of 64 bits: partialInsertionSort. Written by mksoi.py. -/
import Derived.Test.YtopabadnbelegaaQSoh
import Derived.Sort.LotA
namespace Go.Proofs.Ytopabadnbelegaa.K
open Go.RowKit Go.Lib
theorem ss_go (d : Array (BitVec 64)) (b i : Nat) (h : i < b) (hl : ltB d[i]! d[i - 1]! = false) : Sort.scanSorted ltB d b i = Sort.scanSorted ltB d b (i + 1) := by
  rw [Sort.scanSorted, if_pos (by simp [h, hl])]
theorem ss_no (d : Array (BitVec 64)) (b i : Nat) (h : ¬ i < b ∨ ltB d[i]! d[i - 1]! = true) : Sort.scanSorted ltB d b i = i := by
  rw [Sort.scanSorted, if_neg (by rcases h with h | h <;> simp [h])]
theorem sdn_go (j : Nat) (d : Array (BitVec 64)) (h0 : 0 < j) (hl : ltB d[j]! d[j - 1]! = true) : Sort.shiftDown ltB j d = Sort.shiftDown ltB (j - 1) (Sort.swp d j (j - 1)) := by
  obtain ⟨k, rfl⟩ : ∃ k, j = k + 1 := ⟨j - 1, by omega⟩
  rw [Nat.add_sub_cancel] at hl ⊢
  rw [Sort.shiftDown, hl]
  simp
theorem sdn_no (j : Nat) (d : Array (BitVec 64)) (hl : ltB d[j]! d[j - 1]! = false) : Sort.shiftDown ltB j d = d := by
  cases j with
  | zero => rw [Sort.shiftDown]
  | succ k =>
    rw [Nat.add_sub_cancel] at hl
    rw [Sort.shiftDown, hl]
    simp
theorem su_go (b j : Nat) (d : Array (BitVec 64)) (h : j < b) (hl : ltB d[j]! d[j - 1]! = true) : Sort.shiftUp ltB b j d = Sort.shiftUp ltB b (j + 1) (Sort.swp d j (j - 1)) := by
  rw [Sort.shiftUp, if_pos h, hl]
  simp
theorem su_no (b j : Nat) (d : Array (BitVec 64)) (h : ¬ j < b ∨ ltB d[j]! d[j - 1]! = false) : Sort.shiftUp ltB b j d = d := by
  rw [Sort.shiftUp]
  rcases h with h | h
  · rw [if_neg h]
  · rw [h]; simp
/-- the greater one shifted to the right, if there is room -/
def shU (b i : Nat) (d : Array (BitVec 64)) : Array (BitVec 64) := if b - i ≥ 2 then Sort.shiftUp ltB b (i + 1) d else d
theorem pin_end (a b s i i2 : Nat) (d : Array (BitVec 64)) (hi : Sort.scanSorted ltB d b i = i2) (h : i2 = b) : Sort.partialIns ltB a b (s + 1) i d = (d, true) := by
  rw [Sort.partialIns_succ, hi, if_pos h]
theorem pin_short (a b s i i2 : Nat) (d : Array (BitVec 64)) (hi : Sort.scanSorted ltB d b i = i2) (h : ¬ i2 = b) (h2 : b - a < 50) : Sort.partialIns ltB a b (s + 1) i d = (d, false) := by
  rw [Sort.partialIns_succ, hi, if_neg h, if_pos h2]
theorem pin_go (a b s i i2 : Nat) (d : Array (BitVec 64)) (hi : Sort.scanSorted ltB d b i = i2) (h : ¬ i2 = b) (h2 : ¬ b - a < 50) : Sort.partialIns ltB a b (s + 1) i d = Sort.partialIns ltB a b s i2 (shU b i2 (if i2 - a ≥ 2 then Sort.shiftDown ltB (i2 - 1) (Sort.swp d i2 (i2 - 1)) else Sort.swp d i2 (i2 - 1))) := by
  rw [Sort.partialIns_succ, hi, if_neg h, if_neg h2]
  rfl
set_option maxRecDepth 100000 in
set_option maxHeartbeats 8000000 in
theorem kPins (g c a b n N : Nat) (t : TypeId) (d : Array (BitVec 64)) (u : World) (h : Rw u g t N d) (hn : n = d.size) (hab : a < b) (hb : b ≤ n) (hm : n ≤ 17592186044416) : Calls Try.prog 60 #[.slice (some ⟨g, 0, none⟩) n c, .int .i64 (a : Int), .int .i64 (b : Int)] u fun e u' => e = .returned (.bool (Sort.partialInsertionSort ltB d a b).2) ∧ So u u' g t N (Sort.partialInsertionSort ltB d a b).1 := by
  have HI := hide (fun i (hi : i < n) => ixW g n c i hi)
  have HS0 : Hid (So u u g t N d) := ⟨h, Alt.refl _ _⟩
  have hai : (a : Int) ≤ 17592186044416 := by omega
  have hbi : (b : Int) ≤ 17592186044416 := by omega
  have HA1 : Hid (a + 1 ≤ 17592186044416) := by show _ ≤ _; omega
  have HL := hide (fun x y w => kLess x y w)
  obtain ⟨L, hL⟩ : ∃ L, L = b - a := ⟨_, rfl⟩
  have hLi : (b : Int) - (a : Int) = (L : Int) := by omega
  have hLb : (L : Int) ≤ 17592186044416 := by omega
  have HLL := hide hL
  clear hL
  have HN := hide hn
  have HB := hide hb
  have HA0 : Hid (a < a + 1 ∧ a + 1 ≤ b) := ⟨by omega, by omega⟩
  clear h hn hm hab hb
  go_enter Try.func60, Try.ntmps60
  go_wp2
  go_loopw [7, 8] (fun s7 s8 wr => ∃ (i J : Nat) (dk : Array (BitVec 64)), s7 = .int .i64 (i : Int) ∧ s8 = .int .i64 (J : Int) ∧ (i : Int) ≤ 17592186044416 ∧ (J : Int) ≤ 5 ∧ Hid (a < i ∧ i ≤ b) ∧ Hid (dk.size = n) ∧ Hid (So u wr g t N dk) ∧ Hid (Sort.partialIns ltB a b (5 - J) i dk = Sort.partialIns ltB a b 5 (a + 1) d)) (fun _ s8 _ => 5 - (intOf s8).toNat)
  case atStart => exact ⟨a + 1, 0, d, by go_num, rfl, by have := unhide HA1; omega, by omega, HA0, (unhide HN).symm, HS0, rfl⟩
  case round =>
    clear HS0 HA0
    obtain ⟨i, J, dk, rfl, rfl, hib, hJb, HIA, HZ, HS, HO⟩ := hrel
    by_cases hJ : J < 5
    · have hJi : (J : Int) < 5 := by omega
      have HJ5 := hide hJ
      have HJJ : Hid (5 - (J + 1) + 1 = 5 - J) := by show _ = _; omega
      clear hJ
      go_wp2
      go_loopw [7] (fun s7 wq => ∃ i' : Nat, s7 = .int .i64 (i' : Int) ∧ (i' : Int) ≤ 17592186044416 ∧ Hid (i ≤ i' ∧ i' ≤ b) ∧ Hid (So u wq g t N dk) ∧ Hid (Sort.scanSorted ltB dk b i' = Sort.scanSorted ltB dk b i)) (fun s7 _ => b - (intOf s7).toNat)
      case atStart => exact ⟨i, rfl, hib, ⟨Nat.le_refl _, (unhide HIA).2⟩, HS, rfl⟩
      case round =>
        clear HS
        obtain ⟨i', rfl, hib', HII, HS, HSC⟩ := hrel
        obtain ⟨hii1, hii2⟩ := unhide HII
        have hia := (unhide HIA).1
        by_cases hlt : i' < b
        · have hlti : (i' : Int) < (b : Int) := by omega
          have hip0 : 1 ≤ i' := by omega
          have hzj : i' < dk.size := by rw [unhide HZ]; have := unhide HB; omega
          have hzk : i' - 1 < dk.size := by rw [unhide HZ]; have := unhide HB; omega
          obtain ⟨cya, fya⟩ := (unhide HS).rw'.cell i' hzj
          obtain ⟨cyb, fyb⟩ := (unhide HS).rw'.cell (i' - 1) hzk
          have ixya := unhide HI i' (by rw [unhide HZ] at hzj; exact hzj)
          have ixyb := unhide HI (i' - 1) (by rw [unhide HZ] at hzk; exact hzk)
          have hjw : wrap64 ((i' : Int) - 1) = ((i' - 1 : Nat) : Int) := by simp only [wrap64]; omega
          obtain ⟨ya, hya⟩ : ∃ y, y = dk[i']! := ⟨_, rfl⟩
          obtain ⟨yb, hyb⟩ : ∃ y, y = dk[i' - 1]! := ⟨_, rfl⟩
          rw [← hya] at cya
          rw [← hyb] at cyb
          have Hya := hide hya.symm
          have Hyb := hide hyb.symm
          have HSW := hide (fun (w : World) (hw : So u w g t N dk) => hw.swap i' (i' - 1) hzj hzk)
          rw [← hya, ← hyb] at HSW
          have HSS : Hid ((Sort.swp dk i' (i' - 1)).size = n) := (swp_size dk i' (i' - 1)).trans (unhide HZ)
          have ixnyb := ixyb
          rw [show ((i' - 1 : Nat) : Int) = (i' : Int) - 1 by omega] at ixnyb
          obtain ⟨vyb, hyyb⟩ := cell?_setCell_some (p := ⟨g, i', none⟩) (x := .int .u64 yb.toNat) cyb
          clear hya hyb hzj hzk
          have HLT := hide hlt
          clear HSW HSS
          cases hls : ltB ya yb with
          | false =>
            have HLS := hide (fun w => unhide HL ya yb w)
            rw [hls] at HLS
            have HGO := hide ((ss_go dk b i' hlt (by rw [unhide Hya, unhide Hyb]; exact hls)).symm.trans (unhide HSC))
            have HI2 : Hid (i ≤ i' + 1 ∧ i' + 1 ≤ b) := ⟨by omega, by omega⟩
            have hi3 : Hid (i' + 1 ≤ 17592186044416) := by show _ ≤ _; omega
            clear hls hlt hii1 hii2 hia hip0
            go_wp2
            go_quiet (first | exact Calls.quiet_of_same (unhide HLS _) | fail)
            go_wp2
            go_roundw
            case rel => exact ⟨i' + 1, by go_num, by have := unhide hi3; omega, HI2, (unhide HS).drewN nq, HGO⟩
            case measure => have := unhide HLT; simp [intOf]; omega
          | true =>
            have HLS := hide (fun w => unhide HL ya yb w)
            rw [hls] at HLS
            have HI2 := hide ((unhide HSC).symm.trans (ss_no dk b i' (.inr (by rw [unhide Hya, unhide Hyb]; exact hls))))
            have hne : ¬ i' = b := by omega
            have hnei : ¬ (i' : Int) = (b : Int) := by omega
            clear hls HSC
            go_wp2
            go_quiet (first | exact Calls.quiet_of_same (unhide HLS _) | fail)
            replace HS : Hid (So u (wr.drewN nq) g t N dk) := (unhide HS).drewN nq
            generalize wr.drewN nq = W1 at *
            clear cya fya cyb fyb ixya ixyb ixnyb hyyb HLS Hya Hyb hjw
            by_cases hs : b - a < 50
            · have hsi : (L : Int) < 50 := by have := unhide HLL; omega
              have HEN : Hid (Sort.partialInsertionSort ltB d a b = (dk, false)) := by
                show _ = _
                unfold Sort.partialInsertionSort
                rw [← unhide HO, ← unhide HJJ, pin_short a b _ i i' dk (unhide HI2) hne hs]
              clear hs hne hlt hii1 hii2 hia hip0
              go_wp2
              go_returns
              rw [unhide HEN]
              exact ⟨rfl, unhide HS⟩
            · have hsi : ¬ (L : Int) < 50 := by have := unhide HLL; omega
              have HG := hide ((pin_go a b (5 - (J + 1)) i i' dk (unhide HI2) hne hs).symm.trans ((congrArg (fun z => Sort.partialIns ltB a b z i dk) (unhide HJJ)).trans (unhide HO)))
              have hip : 1 ≤ i' := by omega
              have hibn : i' < b := by omega
              have HIB := hide hibn
              clear hs
              have hzj : i' < dk.size := by rw [unhide HZ]; have := unhide HB; omega
              have hzk : i' - 1 < dk.size := by rw [unhide HZ]; have := unhide HB; omega
              obtain ⟨cya, fya⟩ := (unhide HS).rw'.cell i' hzj
              obtain ⟨cyb, fyb⟩ := (unhide HS).rw'.cell (i' - 1) hzk
              have ixya := unhide HI i' (by rw [unhide HZ] at hzj; exact hzj)
              have ixyb := unhide HI (i' - 1) (by rw [unhide HZ] at hzk; exact hzk)
              have hjw : wrap64 ((i' : Int) - 1) = ((i' - 1 : Nat) : Int) := by simp only [wrap64]; omega
              obtain ⟨ya, hya⟩ : ∃ y, y = dk[i']! := ⟨_, rfl⟩
              obtain ⟨yb, hyb⟩ : ∃ y, y = dk[i' - 1]! := ⟨_, rfl⟩
              rw [← hya] at cya
              rw [← hyb] at cyb
              have Hya := hide hya.symm
              have Hyb := hide hyb.symm
              have HSW := hide (fun (w : World) (hw : So u w g t N dk) => hw.swap i' (i' - 1) hzj hzk)
              rw [← hya, ← hyb] at HSW
              have HSS : Hid ((Sort.swp dk i' (i' - 1)).size = n) := (swp_size dk i' (i' - 1)).trans (unhide HZ)
              have ixnyb := ixyb
              rw [show ((i' - 1 : Nat) : Int) = (i' : Int) - 1 by omega] at ixnyb
              obtain ⟨vyb, hyyb⟩ := cell?_setCell_some (p := ⟨g, i', none⟩) (x := .int .u64 yb.toNat) cyb
              clear hya hyb hzj hzk
              obtain ⟨D, hD⟩ : ∃ D, D = i' - a := ⟨_, rfl⟩
              have hDi : (i' : Int) - (a : Int) = (D : Int) := by omega
              have hDb : (D : Int) ≤ 17592186044416 := by omega
              have h2a : i' - a ≥ 2 → (D : Int) ≥ 2 := by omega
              have h2b : ¬ i' - a ≥ 2 → ¬ (D : Int) ≥ 2 := by omega
              have h1b : i' - 1 ≤ 17592186044416 := by omega
              have HD1 : Hid (1 ≤ i') := hip
              have HA2 := hide h2a
              have HB2 := hide h2b
              clear h2a h2b hD hlt hii1 hii2 hia hip0 hip hibn hne
              by_cases h2 : i' - a ≥ 2
              · have h2i : (D : Int) ≥ 2 := unhide HA2 h2
                obtain ⟨i1, hi1⟩ : ∃ i1, i1 = i' - 1 := ⟨_, rfl⟩
                have HI1 := hide hi1
                rw [if_pos h2, ← hi1] at HG
                have hi1b : (i1 : Int) ≤ 17592186044416 := by omega
                have HIM : Hid ((i' : Int) - 1 = (i1 : Int)) := by show _ = _; have := unhide HD1; omega
                rw [← hi1] at hjw cyb fyb ixyb ixnyb hyyb HSW HSS
                clear h2 hi1 h1b
                go_wp2
                go_region
                go_wp2
                have HS1 := hide (show So u _ g t N (Sort.swp dk i' i1) from (unhide HSW _ (unhide HS)).drew)
                generalize Sort.swp dk i' i1 = d1 at *
                clear HSW cya cyb fya fyb hyyb
                rw [unhide HIM]
                go_loopw [9] (fun s9 wq => ∃ (j : Nat) (dj : Array (BitVec 64)), s9 = .int .i64 (j : Int) ∧ (j : Int) ≤ 17592186044416 ∧ Hid (j ≤ i1) ∧ Hid (dj.size = n) ∧ Hid (So u wq g t N dj) ∧ Hid (Sort.shiftDown ltB j dj = Sort.shiftDown ltB i1 d1)) (fun s9 _ => (intOf s9).toNat)
                case atStart => exact ⟨i1, d1, rfl, hi1b, Nat.le_refl _, HSS, HS1, rfl⟩
                case round =>
                  clear HS HS1
                  obtain ⟨j, dj, rfl, hjb, HJ, HZ2, HS, HD⟩ := hrel
                  rcases Nat.eq_zero_or_pos j with hj0 | hj0
                  · have hj0i : ¬ (j : Int) ≥ 1 := by omega
                    have HG2 : Hid (Sort.partialIns ltB a b (5 - (J + 1)) i' (shU b i' dj) = Sort.partialIns ltB a b 5 (a + 1) d) := by
                      show _ = _
                      rw [← unhide HG, ← unhide HD, hj0, Sort.shiftDown]
                    clear hj0
                    obtain ⟨E, hE⟩ : ∃ E, E = b - i' := ⟨_, rfl⟩
                    have hEi : (b : Int) - (i' : Int) = (E : Int) := by have := unhide HIB; omega
                    have hEb : (E : Int) ≤ 17592186044416 := by omega
                    by_cases h2 : b - i' ≥ 2
                    · have h2i' : (E : Int) ≥ 2 := by have := unhide HIB; omega
                      have HGU : Hid (Sort.partialIns ltB a b (5 - (J + 1)) i' (Sort.shiftUp ltB b (i' + 1) dj) = Sort.partialIns ltB a b 5 (a + 1) d) := by
                        show _ = _
                        have q := unhide HG2
                        unfold shU at q
                        rw [if_pos h2] at q
                        exact q
                      have HI1B : Hid (i' + 1 ≤ 17592186044416) := by have := unhide HIB; show _ ≤ _; omega
                      have HI1 : Hid (i' < i' + 1 ∧ i' + 1 ≤ b) := by have := unhide HIB; exact ⟨by omega, by omega⟩
                      obtain ⟨q1, hq1⟩ : ∃ q1, q1 = i' + 1 := ⟨_, rfl⟩
                      have HQ1 : Hid ((i' : Int) + 1 = (q1 : Int)) := by show _ = _; omega
                      have HQW : Hid (wrap64 ((i' : Int) + 1) = (q1 : Int)) := by show _ = _; simp only [wrap64]; omega
                      rw [← hq1] at HGU HI1 HI1B
                      clear h2 hE HG2 hq1
                      go_wp2
                      first | rw [unhide HQ1] | rw [unhide HQW]
                      go_loopw [10] (fun s10 wq => ∃ (k : Nat) (dz : Array (BitVec 64)), s10 = .int .i64 (k : Int) ∧ (k : Int) ≤ 17592186044416 ∧ Hid (i' < k ∧ k ≤ b) ∧ Hid (dz.size = n) ∧ Hid (So u wq g t N dz) ∧ Hid (Sort.shiftUp ltB b k dz = Sort.shiftUp ltB b q1 dj)) (fun s10 _ => b - (intOf s10).toNat)
                      case atStart => exact ⟨q1, dj, rfl, by have := unhide HI1B; omega, HI1, HZ2, HS, rfl⟩
                      case round =>
                        clear HS
                        obtain ⟨k, dz, rfl, hkb, HK, HZ3, HS, HU⟩ := hrel
                        obtain ⟨hk1, hk2⟩ := unhide HK
                        by_cases hkb2 : k < b
                        · have hkbi : (k : Int) < (b : Int) := by omega
                          have hk0 : (k : Int) ≥ 1 := by omega
                          have hzj : k < dz.size := by rw [unhide HZ3]; have := unhide HB; omega
                          have hzk : k - 1 < dz.size := by rw [unhide HZ3]; have := unhide HB; omega
                          obtain ⟨cya, fya⟩ := (unhide HS).rw'.cell k hzj
                          obtain ⟨cyb, fyb⟩ := (unhide HS).rw'.cell (k - 1) hzk
                          have ixya := unhide HI k (by rw [unhide HZ3] at hzj; exact hzj)
                          have ixyb := unhide HI (k - 1) (by rw [unhide HZ3] at hzk; exact hzk)
                          have hjw : wrap64 ((k : Int) - 1) = ((k - 1 : Nat) : Int) := by simp only [wrap64]; omega
                          obtain ⟨ya, hya⟩ : ∃ y, y = dz[k]! := ⟨_, rfl⟩
                          obtain ⟨yb, hyb⟩ : ∃ y, y = dz[k - 1]! := ⟨_, rfl⟩
                          rw [← hya] at cya
                          rw [← hyb] at cyb
                          have Hya := hide hya.symm
                          have Hyb := hide hyb.symm
                          have HSW := hide (fun (w : World) (hw : So u w g t N dz) => hw.swap k (k - 1) hzj hzk)
                          rw [← hya, ← hyb] at HSW
                          have HSS : Hid ((Sort.swp dz k (k - 1)).size = n) := (swp_size dz k (k - 1)).trans (unhide HZ3)
                          have ixnyb := ixyb
                          rw [show ((k - 1 : Nat) : Int) = (k : Int) - 1 by omega] at ixnyb
                          obtain ⟨vyb, hyyb⟩ := cell?_setCell_some (p := ⟨g, k, none⟩) (x := .int .u64 yb.toNat) cyb
                          clear hya hyb hzj hzk
                          have HKB := hide hkb2
                          cases hls : ltB ya yb with
                          | true =>
                            have HLS := hide (fun w => unhide HL ya yb w)
                            rw [hls] at HLS
                            have HGO := hide ((su_go b k dz hkb2 (by rw [unhide Hya, unhide Hyb]; exact hls)).symm.trans (unhide HU))
                            have HK2 : Hid (i' < k + 1 ∧ k + 1 ≤ b) := ⟨by omega, by omega⟩
                            have hk3 : Hid (k + 1 ≤ 17592186044416) := by show _ ≤ _; omega
                            clear hls hkb2 hk1 hk2
                            go_wp2
                            go_quiet (first | exact Calls.quiet_of_same (unhide HLS _) | fail)
                            go_wp2
                            go_region
                            go_wp2
                            go_roundw
                            case rel => exact ⟨k + 1, _, by go_num, by have := unhide hk3; omega, HK2, HSS, by refine unhide HSW _ ?_; repeat (first | exact unhide HS | apply So.drewN | apply So.drew), HGO⟩
                            case measure => have := unhide HKB; simp [intOf]; omega
                          | false =>
                            have HLS := hide (fun w => unhide HL ya yb w)
                            rw [hls] at HLS
                            have HG3 : Hid (Sort.partialIns ltB a b (5 - (J + 1)) i' dz = Sort.partialIns ltB a b 5 (a + 1) d) := by
                              show _ = _
                              rw [← unhide HGU, ← unhide HU, su_no b k dz (.inr (by rw [unhide Hya, unhide Hyb]; exact hls))]
                            clear hls hkb2 hk1 hk2
                            go_wp2
                            go_quiet (first | exact Calls.quiet_of_same (unhide HLS _) | fail)
                            replace HS : Hid (So u (wr.drewN nq) g t N dz) := (unhide HS).drewN nq
                            generalize wr.drewN nq = W3 at *
                            clear cya cyb fya fyb HLS HU HSW
                            go_wp2
                            go_roundw
                            case rel => exact ⟨i', J + 1, dz, rfl, by go_num, hib', by have := unhide HJ5; omega, ⟨by have := unhide HIA; have := unhide HII; omega, by have := unhide HII; omega⟩, HZ3, HS, HG3⟩
                            case measure => have := unhide HJ5; simp [intOf] <;> omega
                        · have hkbi : ¬ (k : Int) < (b : Int) := by omega
                          have HG3 : Hid (Sort.partialIns ltB a b (5 - (J + 1)) i' dz = Sort.partialIns ltB a b 5 (a + 1) d) := by
                            show _ = _
                            rw [← unhide HGU, ← unhide HU, su_no b k dz (.inl hkb2)]
                          clear hkb2 hk1 hk2
                          go_wp2
                          go_roundw
                          case rel => exact ⟨i', J + 1, dz, rfl, by go_num, hib', by have := unhide HJ5; omega, ⟨by have := unhide HIA; have := unhide HII; omega, by have := unhide HII; omega⟩, HZ3, HS, HG3⟩
                          case measure => have := unhide HJ5; simp [intOf] <;> omega
                    · have h2i' : ¬ (E : Int) ≥ 2 := by have := unhide HIB; omega
                      obtain ⟨dz, hdz⟩ : ∃ dz, dz = dj := ⟨_, rfl⟩
                      have HG3 : Hid (Sort.partialIns ltB a b (5 - (J + 1)) i' dz = Sort.partialIns ltB a b 5 (a + 1) d) := by
                        show _ = _
                        have q := unhide HG2
                        unfold shU at q
                        rw [if_neg h2] at q
                        rw [hdz]
                        exact q
                      have HZ3 : Hid (dz.size = n) := by rw [hdz]; exact HZ2
                      rw [← hdz] at HS
                      clear h2 hE hdz
                      go_wp2
                      go_roundw
                      case rel => exact ⟨i', J + 1, dz, rfl, by go_num, hib', by have := unhide HJ5; omega, ⟨by have := unhide HIA; have := unhide HII; omega, by have := unhide HII; omega⟩, HZ3, HS, HG3⟩
                      case measure => have := unhide HJ5; simp [intOf] <;> omega
                  · have hj0i : (j : Int) ≥ 1 := by omega
                    have hjib : j < b := by have := unhide HJ; have := unhide HI1; omega
                    have hjp := hj0
                    have hzj : j < dj.size := by rw [unhide HZ2]; have := unhide HB; omega
                    have hzk : j - 1 < dj.size := by rw [unhide HZ2]; have := unhide HB; omega
                    obtain ⟨cyc, fyc⟩ := (unhide HS).rw'.cell j hzj
                    obtain ⟨cyd, fyd⟩ := (unhide HS).rw'.cell (j - 1) hzk
                    have ixyc := unhide HI j (by rw [unhide HZ2] at hzj; exact hzj)
                    have ixyd := unhide HI (j - 1) (by rw [unhide HZ2] at hzk; exact hzk)
                    have hjw : wrap64 ((j : Int) - 1) = ((j - 1 : Nat) : Int) := by simp only [wrap64]; omega
                    obtain ⟨yc, hyc⟩ : ∃ y, y = dj[j]! := ⟨_, rfl⟩
                    obtain ⟨yd, hyd⟩ : ∃ y, y = dj[j - 1]! := ⟨_, rfl⟩
                    rw [← hyc] at cyc
                    rw [← hyd] at cyd
                    have Hyc := hide hyc.symm
                    have Hyd := hide hyd.symm
                    have HSW := hide (fun (w : World) (hw : So u w g t N dj) => hw.swap j (j - 1) hzj hzk)
                    rw [← hyc, ← hyd] at HSW
                    have HSS : Hid ((Sort.swp dj j (j - 1)).size = n) := (swp_size dj j (j - 1)).trans (unhide HZ2)
                    have ixnyd := ixyd
                    rw [show ((j - 1 : Nat) : Int) = (j : Int) - 1 by omega] at ixnyd
                    obtain ⟨vyd, hyyd⟩ := cell?_setCell_some (p := ⟨g, j, none⟩) (x := .int .u64 yd.toNat) cyd
                    clear hyc hyd hzj hzk
                    have HJP := hide hj0
                    cases hls : ltB yc yd with
                    | true =>
                      have HLS := hide (fun w => unhide HL yc yd w)
                      rw [hls] at HLS
                      have HGO := hide ((sdn_go j dj hj0 (by rw [unhide Hyc, unhide Hyd]; exact hls)).symm.trans (unhide HD))
                      have HJ2 : Hid (j - 1 ≤ i1) := by have := unhide HJ; show _ ≤ _; omega
                      have hj3 : Hid (j - 1 ≤ 17592186044416) := by show _ ≤ _; omega
                      have HJM : Hid ((j : Int) - 1 = ((j - 1 : Nat) : Int)) := by show _ = _; omega
                      clear hls hj0 hjp hjib
                      go_wp2
                      go_quiet (first | exact Calls.quiet_of_same (unhide HLS _) | fail)
                      go_wp2
                      go_region
                      go_wp2
                      go_roundw
                      case rel => exact ⟨j - 1, _, by first | rfl | rw [hjw] | rw [unhide HJM], by have := unhide hj3; omega, HJ2, HSS, by refine unhide HSW _ ?_; repeat (first | exact unhide HS | apply So.drewN | apply So.drew), HGO⟩
                      case measure => (first | rw [hjw] | rw [unhide HJM] | skip); have := unhide HJP; show ((j - 1 : Nat) : Int).toNat < (j : Int).toNat; omega
                    | false =>
                      have HLS := hide (fun w => unhide HL yc yd w)
                      rw [hls] at HLS
                      have HG2 : Hid (Sort.partialIns ltB a b (5 - (J + 1)) i' (shU b i' dj) = Sort.partialIns ltB a b 5 (a + 1) d) := by
                        show _ = _
                        rw [← unhide HG, ← unhide HD, sdn_no j dj (by rw [unhide Hyc, unhide Hyd]; exact hls)]
                      clear hls hj0 hjp hjib
                      go_wp2
                      go_quiet (first | exact Calls.quiet_of_same (unhide HLS _) | fail)
                      replace HS : Hid (So u (wr.drewN nq) g t N dj) := (unhide HS).drewN nq
                      generalize wr.drewN nq = W2 at *
                      clear cyc cyd fyc fyd HLS HD HSW hjw
                      obtain ⟨E, hE⟩ : ∃ E, E = b - i' := ⟨_, rfl⟩
                      have hEi : (b : Int) - (i' : Int) = (E : Int) := by have := unhide HIB; omega
                      have hEb : (E : Int) ≤ 17592186044416 := by omega
                      by_cases h2 : b - i' ≥ 2
                      · have h2i' : (E : Int) ≥ 2 := by have := unhide HIB; omega
                        have HGU : Hid (Sort.partialIns ltB a b (5 - (J + 1)) i' (Sort.shiftUp ltB b (i' + 1) dj) = Sort.partialIns ltB a b 5 (a + 1) d) := by
                          show _ = _
                          have q := unhide HG2
                          unfold shU at q
                          rw [if_pos h2] at q
                          exact q
                        have HI1B : Hid (i' + 1 ≤ 17592186044416) := by have := unhide HIB; show _ ≤ _; omega
                        have HI1 : Hid (i' < i' + 1 ∧ i' + 1 ≤ b) := by have := unhide HIB; exact ⟨by omega, by omega⟩
                        obtain ⟨q1, hq1⟩ : ∃ q1, q1 = i' + 1 := ⟨_, rfl⟩
                        have HQ1 : Hid ((i' : Int) + 1 = (q1 : Int)) := by show _ = _; omega
                        have HQW : Hid (wrap64 ((i' : Int) + 1) = (q1 : Int)) := by show _ = _; simp only [wrap64]; omega
                        rw [← hq1] at HGU HI1 HI1B
                        clear h2 hE HG2 hq1
                        go_wp2
                        first | rw [unhide HQ1] | rw [unhide HQW]
                        go_loopw [10] (fun s10 wq => ∃ (k : Nat) (dz : Array (BitVec 64)), s10 = .int .i64 (k : Int) ∧ (k : Int) ≤ 17592186044416 ∧ Hid (i' < k ∧ k ≤ b) ∧ Hid (dz.size = n) ∧ Hid (So u wq g t N dz) ∧ Hid (Sort.shiftUp ltB b k dz = Sort.shiftUp ltB b q1 dj)) (fun s10 _ => b - (intOf s10).toNat)
                        case atStart => exact ⟨q1, dj, rfl, by have := unhide HI1B; omega, HI1, HZ2, HS, rfl⟩
                        case round =>
                          clear HS
                          obtain ⟨k, dz, rfl, hkb, HK, HZ3, HS, HU⟩ := hrel
                          obtain ⟨hk1, hk2⟩ := unhide HK
                          by_cases hkb2 : k < b
                          · have hkbi : (k : Int) < (b : Int) := by omega
                            have hk0 : (k : Int) ≥ 1 := by omega
                            have hzj : k < dz.size := by rw [unhide HZ3]; have := unhide HB; omega
                            have hzk : k - 1 < dz.size := by rw [unhide HZ3]; have := unhide HB; omega
                            obtain ⟨cya, fya⟩ := (unhide HS).rw'.cell k hzj
                            obtain ⟨cyb, fyb⟩ := (unhide HS).rw'.cell (k - 1) hzk
                            have ixya := unhide HI k (by rw [unhide HZ3] at hzj; exact hzj)
                            have ixyb := unhide HI (k - 1) (by rw [unhide HZ3] at hzk; exact hzk)
                            have hjw : wrap64 ((k : Int) - 1) = ((k - 1 : Nat) : Int) := by simp only [wrap64]; omega
                            obtain ⟨ya, hya⟩ : ∃ y, y = dz[k]! := ⟨_, rfl⟩
                            obtain ⟨yb, hyb⟩ : ∃ y, y = dz[k - 1]! := ⟨_, rfl⟩
                            rw [← hya] at cya
                            rw [← hyb] at cyb
                            have Hya := hide hya.symm
                            have Hyb := hide hyb.symm
                            have HSW := hide (fun (w : World) (hw : So u w g t N dz) => hw.swap k (k - 1) hzj hzk)
                            rw [← hya, ← hyb] at HSW
                            have HSS : Hid ((Sort.swp dz k (k - 1)).size = n) := (swp_size dz k (k - 1)).trans (unhide HZ3)
                            have ixnyb := ixyb
                            rw [show ((k - 1 : Nat) : Int) = (k : Int) - 1 by omega] at ixnyb
                            obtain ⟨vyb, hyyb⟩ := cell?_setCell_some (p := ⟨g, k, none⟩) (x := .int .u64 yb.toNat) cyb
                            clear hya hyb hzj hzk
                            have HKB := hide hkb2
                            cases hls : ltB ya yb with
                            | true =>
                              have HLS := hide (fun w => unhide HL ya yb w)
                              rw [hls] at HLS
                              have HGO := hide ((su_go b k dz hkb2 (by rw [unhide Hya, unhide Hyb]; exact hls)).symm.trans (unhide HU))
                              have HK2 : Hid (i' < k + 1 ∧ k + 1 ≤ b) := ⟨by omega, by omega⟩
                              have hk3 : Hid (k + 1 ≤ 17592186044416) := by show _ ≤ _; omega
                              clear hls hkb2 hk1 hk2
                              go_wp2
                              go_quiet (first | exact Calls.quiet_of_same (unhide HLS _) | fail)
                              go_wp2
                              go_region
                              go_wp2
                              go_roundw
                              case rel => exact ⟨k + 1, _, by go_num, by have := unhide hk3; omega, HK2, HSS, by refine unhide HSW _ ?_; repeat (first | exact unhide HS | apply So.drewN | apply So.drew), HGO⟩
                              case measure => have := unhide HKB; simp [intOf]; omega
                            | false =>
                              have HLS := hide (fun w => unhide HL ya yb w)
                              rw [hls] at HLS
                              have HG3 : Hid (Sort.partialIns ltB a b (5 - (J + 1)) i' dz = Sort.partialIns ltB a b 5 (a + 1) d) := by
                                show _ = _
                                rw [← unhide HGU, ← unhide HU, su_no b k dz (.inr (by rw [unhide Hya, unhide Hyb]; exact hls))]
                              clear hls hkb2 hk1 hk2
                              go_wp2
                              go_quiet (first | exact Calls.quiet_of_same (unhide HLS _) | fail)
                              replace HS : Hid (So u (wr.drewN nq) g t N dz) := (unhide HS).drewN nq
                              generalize wr.drewN nq = W3 at *
                              clear cya cyb fya fyb HLS HU HSW
                              go_wp2
                              go_roundw
                              case rel => exact ⟨i', J + 1, dz, rfl, by go_num, hib', by have := unhide HJ5; omega, ⟨by have := unhide HIA; have := unhide HII; omega, by have := unhide HII; omega⟩, HZ3, HS, HG3⟩
                              case measure => have := unhide HJ5; simp [intOf] <;> omega
                          · have hkbi : ¬ (k : Int) < (b : Int) := by omega
                            have HG3 : Hid (Sort.partialIns ltB a b (5 - (J + 1)) i' dz = Sort.partialIns ltB a b 5 (a + 1) d) := by
                              show _ = _
                              rw [← unhide HGU, ← unhide HU, su_no b k dz (.inl hkb2)]
                            clear hkb2 hk1 hk2
                            go_wp2
                            go_roundw
                            case rel => exact ⟨i', J + 1, dz, rfl, by go_num, hib', by have := unhide HJ5; omega, ⟨by have := unhide HIA; have := unhide HII; omega, by have := unhide HII; omega⟩, HZ3, HS, HG3⟩
                            case measure => have := unhide HJ5; simp [intOf] <;> omega
                      · have h2i' : ¬ (E : Int) ≥ 2 := by have := unhide HIB; omega
                        obtain ⟨dz, hdz⟩ : ∃ dz, dz = dj := ⟨_, rfl⟩
                        have HG3 : Hid (Sort.partialIns ltB a b (5 - (J + 1)) i' dz = Sort.partialIns ltB a b 5 (a + 1) d) := by
                          show _ = _
                          have q := unhide HG2
                          unfold shU at q
                          rw [if_neg h2] at q
                          rw [hdz]
                          exact q
                        have HZ3 : Hid (dz.size = n) := by rw [hdz]; exact HZ2
                        rw [← hdz] at HS
                        clear h2 hE hdz
                        go_wp2
                        go_roundw
                        case rel => exact ⟨i', J + 1, dz, rfl, by go_num, hib', by have := unhide HJ5; omega, ⟨by have := unhide HIA; have := unhide HII; omega, by have := unhide HII; omega⟩, HZ3, HS, HG3⟩
                        case measure => have := unhide HJ5; simp [intOf] <;> omega
              · have h2i : ¬ (D : Int) ≥ 2 := unhide HB2 h2
                rw [if_neg h2] at HG
                clear h2 h1b
                obtain ⟨dj, hdj⟩ : ∃ dj, dj = Sort.swp dk i' (i' - 1) := ⟨_, rfl⟩
                rw [← hdj] at HG HSW HSS
                have HZ2 := HSS
                have HG2 := HG
                clear hdj HG HSS
                go_wp2
                go_region
                have HS1 := hide (show So u _ g t N dj from (unhide HSW _ (unhide HS)).drew)
                clear HS HSW
                have HS := HS1
                clear HS1
                clear cya cyb fya fyb hyyb
                obtain ⟨E, hE⟩ : ∃ E, E = b - i' := ⟨_, rfl⟩
                have hEi : (b : Int) - (i' : Int) = (E : Int) := by have := unhide HIB; omega
                have hEb : (E : Int) ≤ 17592186044416 := by omega
                by_cases h2 : b - i' ≥ 2
                · have h2i' : (E : Int) ≥ 2 := by have := unhide HIB; omega
                  have HGU : Hid (Sort.partialIns ltB a b (5 - (J + 1)) i' (Sort.shiftUp ltB b (i' + 1) dj) = Sort.partialIns ltB a b 5 (a + 1) d) := by
                    show _ = _
                    have q := unhide HG2
                    unfold shU at q
                    rw [if_pos h2] at q
                    exact q
                  have HI1B : Hid (i' + 1 ≤ 17592186044416) := by have := unhide HIB; show _ ≤ _; omega
                  have HI1 : Hid (i' < i' + 1 ∧ i' + 1 ≤ b) := by have := unhide HIB; exact ⟨by omega, by omega⟩
                  obtain ⟨q1, hq1⟩ : ∃ q1, q1 = i' + 1 := ⟨_, rfl⟩
                  have HQ1 : Hid ((i' : Int) + 1 = (q1 : Int)) := by show _ = _; omega
                  have HQW : Hid (wrap64 ((i' : Int) + 1) = (q1 : Int)) := by show _ = _; simp only [wrap64]; omega
                  rw [← hq1] at HGU HI1 HI1B
                  clear h2 hE HG2 hq1
                  go_wp2
                  first | rw [unhide HQ1] | rw [unhide HQW]
                  go_loopw [10] (fun s10 wq => ∃ (k : Nat) (dz : Array (BitVec 64)), s10 = .int .i64 (k : Int) ∧ (k : Int) ≤ 17592186044416 ∧ Hid (i' < k ∧ k ≤ b) ∧ Hid (dz.size = n) ∧ Hid (So u wq g t N dz) ∧ Hid (Sort.shiftUp ltB b k dz = Sort.shiftUp ltB b q1 dj)) (fun s10 _ => b - (intOf s10).toNat)
                  case atStart => exact ⟨q1, dj, rfl, by have := unhide HI1B; omega, HI1, HZ2, HS, rfl⟩
                  case round =>
                    clear HS
                    obtain ⟨k, dz, rfl, hkb, HK, HZ3, HS, HU⟩ := hrel
                    obtain ⟨hk1, hk2⟩ := unhide HK
                    by_cases hkb2 : k < b
                    · have hkbi : (k : Int) < (b : Int) := by omega
                      have hk0 : (k : Int) ≥ 1 := by omega
                      have hzj : k < dz.size := by rw [unhide HZ3]; have := unhide HB; omega
                      have hzk : k - 1 < dz.size := by rw [unhide HZ3]; have := unhide HB; omega
                      obtain ⟨cya, fya⟩ := (unhide HS).rw'.cell k hzj
                      obtain ⟨cyb, fyb⟩ := (unhide HS).rw'.cell (k - 1) hzk
                      have ixya := unhide HI k (by rw [unhide HZ3] at hzj; exact hzj)
                      have ixyb := unhide HI (k - 1) (by rw [unhide HZ3] at hzk; exact hzk)
                      have hjw : wrap64 ((k : Int) - 1) = ((k - 1 : Nat) : Int) := by simp only [wrap64]; omega
                      obtain ⟨ya, hya⟩ : ∃ y, y = dz[k]! := ⟨_, rfl⟩
                      obtain ⟨yb, hyb⟩ : ∃ y, y = dz[k - 1]! := ⟨_, rfl⟩
                      rw [← hya] at cya
                      rw [← hyb] at cyb
                      have Hya := hide hya.symm
                      have Hyb := hide hyb.symm
                      have HSW := hide (fun (w : World) (hw : So u w g t N dz) => hw.swap k (k - 1) hzj hzk)
                      rw [← hya, ← hyb] at HSW
                      have HSS : Hid ((Sort.swp dz k (k - 1)).size = n) := (swp_size dz k (k - 1)).trans (unhide HZ3)
                      have ixnyb := ixyb
                      rw [show ((k - 1 : Nat) : Int) = (k : Int) - 1 by omega] at ixnyb
                      obtain ⟨vyb, hyyb⟩ := cell?_setCell_some (p := ⟨g, k, none⟩) (x := .int .u64 yb.toNat) cyb
                      clear hya hyb hzj hzk
                      have HKB := hide hkb2
                      cases hls : ltB ya yb with
                      | true =>
                        have HLS := hide (fun w => unhide HL ya yb w)
                        rw [hls] at HLS
                        have HGO := hide ((su_go b k dz hkb2 (by rw [unhide Hya, unhide Hyb]; exact hls)).symm.trans (unhide HU))
                        have HK2 : Hid (i' < k + 1 ∧ k + 1 ≤ b) := ⟨by omega, by omega⟩
                        have hk3 : Hid (k + 1 ≤ 17592186044416) := by show _ ≤ _; omega
                        clear hls hkb2 hk1 hk2
                        go_wp2
                        go_quiet (first | exact Calls.quiet_of_same (unhide HLS _) | fail)
                        go_wp2
                        go_region
                        go_wp2
                        go_roundw
                        case rel => exact ⟨k + 1, _, by go_num, by have := unhide hk3; omega, HK2, HSS, by refine unhide HSW _ ?_; repeat (first | exact unhide HS | apply So.drewN | apply So.drew), HGO⟩
                        case measure => have := unhide HKB; simp [intOf]; omega
                      | false =>
                        have HLS := hide (fun w => unhide HL ya yb w)
                        rw [hls] at HLS
                        have HG3 : Hid (Sort.partialIns ltB a b (5 - (J + 1)) i' dz = Sort.partialIns ltB a b 5 (a + 1) d) := by
                          show _ = _
                          rw [← unhide HGU, ← unhide HU, su_no b k dz (.inr (by rw [unhide Hya, unhide Hyb]; exact hls))]
                        clear hls hkb2 hk1 hk2
                        go_wp2
                        go_quiet (first | exact Calls.quiet_of_same (unhide HLS _) | fail)
                        replace HS : Hid (So u (wr.drewN nq) g t N dz) := (unhide HS).drewN nq
                        generalize wr.drewN nq = W3 at *
                        clear cya cyb fya fyb HLS HU HSW
                        go_wp2
                        go_roundw
                        case rel => exact ⟨i', J + 1, dz, rfl, by go_num, hib', by have := unhide HJ5; omega, ⟨by have := unhide HIA; have := unhide HII; omega, by have := unhide HII; omega⟩, HZ3, HS, HG3⟩
                        case measure => have := unhide HJ5; simp [intOf] <;> omega
                    · have hkbi : ¬ (k : Int) < (b : Int) := by omega
                      have HG3 : Hid (Sort.partialIns ltB a b (5 - (J + 1)) i' dz = Sort.partialIns ltB a b 5 (a + 1) d) := by
                        show _ = _
                        rw [← unhide HGU, ← unhide HU, su_no b k dz (.inl hkb2)]
                      clear hkb2 hk1 hk2
                      go_wp2
                      go_roundw
                      case rel => exact ⟨i', J + 1, dz, rfl, by go_num, hib', by have := unhide HJ5; omega, ⟨by have := unhide HIA; have := unhide HII; omega, by have := unhide HII; omega⟩, HZ3, HS, HG3⟩
                      case measure => have := unhide HJ5; simp [intOf] <;> omega
                · have h2i' : ¬ (E : Int) ≥ 2 := by have := unhide HIB; omega
                  obtain ⟨dz, hdz⟩ : ∃ dz, dz = dj := ⟨_, rfl⟩
                  have HG3 : Hid (Sort.partialIns ltB a b (5 - (J + 1)) i' dz = Sort.partialIns ltB a b 5 (a + 1) d) := by
                    show _ = _
                    have q := unhide HG2
                    unfold shU at q
                    rw [if_neg h2] at q
                    rw [hdz]
                    exact q
                  have HZ3 : Hid (dz.size = n) := by rw [hdz]; exact HZ2
                  rw [← hdz] at HS
                  clear h2 hE hdz
                  exfalso
                  omega

        · have hlti : ¬ (i' : Int) < (b : Int) := by omega
          have hltd : decide (i' < b) = false := decide_eq_false hlt
          have hieq : i' = b := by omega
          have HI2 := hide ((unhide HSC).symm.trans (ss_no dk b i' (.inl hlt)))
          have HEN : Hid (Sort.partialInsertionSort ltB d a b = (dk, true)) := by
            show _ = _
            unfold Sort.partialInsertionSort
            rw [← unhide HO, ← unhide HJJ, pin_end a b _ i i' dk (unhide HI2) hieq]
          have hieqi : (i' : Int) = (b : Int) := by omega
          have hied : decide (i' = b) = true := decide_eq_true hieq
          clear hlt hii1 hii2 hia HSC
          go_wp2
          go_quiet (first | fail)
          replace HS : Hid (So u (wr.drewN nq) g t N dk) := (unhide HS).drewN nq
          generalize wr.drewN nq = W1 at *
          go_wp2
          go_returns
          rw [unhide HEN]
          exact ⟨rfl, unhide HS⟩
    · have hJi : ¬ (J : Int) < 5 := by omega
      have HEN : Hid (Sort.partialInsertionSort ltB d a b = (dk, false)) := by
        show _ = _
        unfold Sort.partialInsertionSort
        rw [← unhide HO, show 5 - J = 0 by omega, Sort.partialIns]
      clear hJ
      go_wp2
      go_returns
      rw [unhide HEN]
      exact ⟨rfl, unhide HS⟩
end Go.Proofs.Ytopabadnbelegaa.K
