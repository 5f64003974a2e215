/- Vectors: Valid. -/
import Derived.Test.YtbahfpcfjhifbaaXc

namespace Go.Proofs.Ytbahfpcfjhifbaa
open Go.RowKit

set_option maxRecDepth 100000 in
set_option maxHeartbeats 2000000 in
theorem vValid (l : List (Nat × Nat)) (ao : Option Addr) (c : Nat) (u : World) (h : DAt u l ao) : Calls Try.prog 39 #[.slice ao l.length c] u fun e u' => e = .returned (.bool (V.okB l)) ∧ Below u.heap.size u u' := by
  have hl0 := h.len
  obtain ⟨N, hN⟩ : ∃ N, N = u.heap.size := ⟨_, rfl⟩
  have HN := hide hN
  rw [← hN]
  clear hN
  by_cases h64 : l.length ≤ 64
  · have HQ := hide h.lies
    have HF := hide h.fits
    have HL := hide h64
    clear h
    have HE : Hid (∀ i (hi : i < l.length), ¬ V.good l i hi → V.okB l = false) := fun i hi hg => V.not_ok_at hi hg
    have HT : Hid ((∀ i (hi : i < l.length), V.good l i hi) → V.okB l = true) := fun hg => V.okB_true.2 (V.ok_iff.2 ⟨unhide HL, hg⟩)
    generalize V.okB l = ok at *
    obtain ⟨n, hn⟩ : ∃ n, n = l.length := ⟨_, rfl⟩
    have HLN := hide hn
    rw [← hn] at hl0 h64 ⊢
    have h64i : (n : Int) ≤ 64 := by omega
    have h64j : ¬ (64 : Int) < (n : Int) := by omega
    clear hn hl0
    go_enter Try.func39, Try.ntmps39
    go_wp2
    go_loopw [10] (fun i wr => ∃ k : Nat, k ≤ n ∧ i = .int .i64 k ∧ Hid (Below N u wr ∧ ∀ j (hj : j < l.length), j < k → V.good l j hj)) (fun i _ => n - (intOf i).toNat)
    case atStart => exact ⟨0, Nat.zero_le _, rfl, by rw [unhide HN]; exact Below.refl _ _, fun j _ hj => absurd hj (Nat.not_lt_zero _)⟩
    case round =>
      obtain ⟨k, hk, rfl, HI⟩ := hrel
      by_cases hlt : k < n
      · have hki : (k : Int) < (n : Int) := by omega
        have hkl : k < l.length := by rw [← unhide HLN]; exact hlt
        have HLB := hide ((unhide HQ).below (by rw [← unhide HN]; exact (unhide HI).1))
        obtain ⟨g, o, hao, c1, c2⟩ := (unhide HLB).dt hkl
        subst hao
        have hix := ixD g o n c k hlt
        have hf := unhide HF _ (List.getElem_mem hkl)
        obtain ⟨M, hM⟩ : ∃ M, M = wr.heap.size := ⟨_, rfl⟩
        have HM := hide hM
        have HMN : Hid (N ≤ M) := by rw [hM, unhide HN]; exact (unhide HI).1.size
        clear hM
        have HG : Hid (V.good l k hkl ↔ 1 ≤ l[k].2 ∧ l[k].2 ≤ 1099511627776 ∧ (0 < k → l[k - 1].1 < l[k].1)) := Iff.rfl
        have HK : Hid (∀ W : World, Below M wr W → Below N u W) := fun W hW => (unhide HI).1.trans (hW.mono (unhide HMN))
        have HR : Hid (V.good l k hkl → ∀ j (hj : j < l.length), j < k + 1 → V.good l j hj) := fun hg j hj hjk => by
          rcases Nat.lt_succ_iff_lt_or_eq.1 hjk with h | rfl
          · exact (unhide HI).2 j hj h
          · exact hg
        have HE1 := hide (unhide HE k hkl)
        generalize hq : l[k] = q at *
        obtain ⟨qa, qc⟩ := q
        have c1 : wr.cell? ⟨g, o + k * 2, none⟩ = some (.int .u32 (qa : Int)) := c1
        have c2 : wr.cell? ⟨g, o + k * 2 + 1, none⟩ = some (.int .u64 (qc : Int)) := c2
        have hf1 : (qa : Int) < 4294967296 := by have := hf.1; simp only at this; omega
        have hf2 : (qc : Int) < 18446744073709551616 := by have := hf.2; simp only at this; omega
        have HF1 := hide hf1
        have HF2 := hide hf2
        have HG2 : Hid (V.good l k hkl ↔ 1 ≤ qc ∧ qc ≤ 1099511627776 ∧ (0 < k → l[k - 1].1 < qa)) := HG
        clear hf hq HI hf1 hf2 HG HE
        generalize o + k * 2 = oo at *
        by_cases hcn : 1 ≤ qc ∧ qc ≤ 1099511627776
        · obtain ⟨hcn1, hcn2⟩ := hcn
          have hc3 : ¬ (qc : Int) < 1 := by omega
          have hc4 : ¬ (1099511627776 : Int) < (qc : Int) := by omega
          have HC1 := hide hcn1
          have HC2 := hide hcn2
          clear hcn1 hcn2
          by_cases hk0 : k = 0
          · have HK0 := hide hk0
            have HGk : Hid (V.good l k hkl) := (unhide HG2).2 ⟨unhide HC1, unhide HC2, fun h => by have := unhide HK0; omega⟩
            have hk1 : ¬ (0 : Int) < (k : Int) := by omega
            have hk2 : decide ((0 : Int) < (k : Int)) = false := decide_eq_false hk1
            have hk3 : decide (0 < k) = false := decide_eq_false (by omega)
            clear hk0 hk1
            go_wp2_with (first
              | ((with_reducible refine wpList_alloc_dot (by rfl) (by rfl) (some 4) (by rfl) M (unhide HM) ?_); intro W1 HX1 HB1 HS1; simp only [Act.put, List.setIfInBounds_toArray, List.set_cons_zero, List.set_cons_succ])
              | ((with_reducible refine wpList_store_dot (by rfl) (.tmp 4) (.tmp 14) (by rfl) M (qa : Int) (qc : Int) (by with_unfolding_all rfl) (by with_unfolding_all rfl) (unhide HX1) ?_); intro W2 HX2 HE2; simp only [Act.put]; obtain ⟨y0, y1⟩ := box2 (unhide HX2))
              | fail)
            go_quiet (fail)
            go_wp2
            go_roundw
            case rel => exact ⟨k + 1, by omega, by go_num, belowDrewN (unhide HK _ (by rw [unhide HE2]; exact belowRow (unhide HB1) (Nat.le_refl _) _)) _, unhide HR (unhide HGk)⟩
            case measure => simp [intOf]; omega
          · obtain ⟨j, hj⟩ : ∃ j, k = j + 1 := ⟨k - 1, by omega⟩
            have hjl : j < l.length := by omega
            obtain ⟨g', o', hao', d1, d2⟩ := (unhide HLB).dt hjl
            cases hao'
            have hix2 := ixD g o n c j (by omega)
            have hw1 : IntKind.i64.wrap ((k : Int) - 1) = (j : Int) := by rw [IntKind.wrap_i64]; omega
            have hk1 : (0 : Int) < (k : Int) := by omega
            have hk2 : decide ((0 : Int) < (k : Int)) = true := decide_eq_true hk1
            have hk3 : decide (0 < k) = true := decide_eq_true (by omega)
            have HG3 : Hid (V.good l k hkl ↔ 1 ≤ qc ∧ qc ≤ 1099511627776 ∧ l[j].1 < qa) := by
              subst hj
              refine (unhide HG2).trans ⟨fun h => ⟨h.1, h.2.1, h.2.2 (Nat.succ_pos _)⟩, fun h => ⟨h.1, h.2.1, fun _ => h.2.2⟩⟩
            have HF3 := unhide HF _ (List.getElem_mem hjl)
            generalize l[j] = p at *
            obtain ⟨pa, pc⟩ := p
            have HF4 : Hid (pa < 4294967296) := HF3.1
            have d1 : wr.cell? ⟨g, o + j * 2, none⟩ = some (.int .u32 (pa : Int)) := d1
            have D1 := hide d1
            have HJ := hide hj
            clear d2 hj d1 HF3
            have HDB : Hid (∀ W : World, Below M wr W → W.cell? ⟨g, o + j * 2, none⟩ = some (.int .u32 (pa : Int))) := fun W hW => (hW.cell (p := ⟨g, o + j * 2, none⟩) (by rw [unhide HM]; exact World.block_lt_of_cell? wr _ (unhide D1))).trans (unhide D1)
            generalize o + j * 2 = oj at *
            by_cases hpa : pa < qa
            · have HGk : Hid (V.good l k hkl) := (unhide HG3).2 ⟨unhide HC1, unhide HC2, hpa⟩
              have hp1 : ¬ (qa : Int) ≤ (pa : Int) := by omega
              have hp2 : decide ((qa : Int) ≤ (pa : Int)) = false := decide_eq_false hp1
              have hp3 : decide (qa ≤ pa) = false := decide_eq_false (by omega)
              go_wp2_with (first
                | ((with_reducible refine wpList_alloc_dot (by rfl) (by rfl) (some 4) (by rfl) M (unhide HM) ?_); intro W1 HX1 HB1 HS1; simp only [Act.put, List.setIfInBounds_toArray, List.set_cons_zero, List.set_cons_succ])
                | ((with_reducible refine wpList_store_dot (by rfl) (.tmp 4) (.tmp 14) (by rfl) M (qa : Int) (qc : Int) (by with_unfolding_all rfl) (by with_unfolding_all rfl) (unhide HX1) ?_); intro W2 HX2 HE2; simp only [Act.put]; obtain ⟨y0, y1⟩ := box2 (unhide HX2); have HB2 : Hid (Below M wr W2) := (by rw [unhide HE2]; exact belowRow (unhide HB1) (Nat.le_refl _) _); have hd2 := unhide HDB _ (unhide HB2))
                | fail)
              go_quiet (fail)
              go_wp2
              go_roundw
              case rel => exact ⟨k + 1, by omega, by go_num, belowDrewN (unhide HK _ (unhide HB2)) _, unhide HR (unhide HGk)⟩
              case measure => simp [intOf]; omega
            · have HB : Hid (ok = false) := unhide HE1 fun hg => hpa ((unhide HG3).1 hg).2.2
              have hp1 : (qa : Int) ≤ (pa : Int) := by omega
              have hp2 : decide ((qa : Int) ≤ (pa : Int)) = true := decide_eq_true hp1
              have hp3 : decide (qa ≤ pa) = true := decide_eq_true (by omega)
              go_wp2_with (first
                | ((with_reducible refine wpList_alloc_dot (by rfl) (by rfl) (some 4) (by rfl) M (unhide HM) ?_); intro W1 HX1 HB1 HS1; simp only [Act.put, List.setIfInBounds_toArray, List.set_cons_zero, List.set_cons_succ])
                | ((with_reducible refine wpList_store_dot (by rfl) (.tmp 4) (.tmp 14) (by rfl) M (qa : Int) (qc : Int) (by with_unfolding_all rfl) (by with_unfolding_all rfl) (unhide HX1) ?_); intro W2 HX2 HE2; simp only [Act.put]; obtain ⟨y0, y1⟩ := box2 (unhide HX2); have HB2 : Hid (Below M wr W2) := (by rw [unhide HE2]; exact belowRow (unhide HB1) (Nat.le_refl _) _); have hd2 := unhide HDB _ (unhide HB2))
                | fail)
              go_quiet (fail)
              go_wp2
              go_ret
              exact ⟨by rw [unhide HB]; rfl, belowDrewN (unhide HK _ (unhide HB2)) _⟩
        · have HB : Hid (ok = false) := unhide HE1 fun hg => hcn ⟨((unhide HG2).1 hg).1, ((unhide HG2).1 hg).2.1⟩
          by_cases hc3 : (qc : Int) < 1
          · go_wp2_with (first
              | ((with_reducible refine wpList_alloc_dot (by rfl) (by rfl) (some 4) (by rfl) M (unhide HM) ?_); intro W1 HX1 HB1 HS1; simp only [Act.put, List.setIfInBounds_toArray, List.set_cons_zero, List.set_cons_succ])
              | ((with_reducible refine wpList_store_dot (by rfl) (.tmp 4) (.tmp 14) (by rfl) M (qa : Int) (qc : Int) (by with_unfolding_all rfl) (by with_unfolding_all rfl) (unhide HX1) ?_); intro W2 HX2 HE2; simp only [Act.put]; obtain ⟨y0, y1⟩ := box2 (unhide HX2))
              | fail)
            go_ret
            exact ⟨by rw [unhide HB]; rfl, unhide HK _ (by rw [unhide HE2]; exact belowRow (unhide HB1) (Nat.le_refl _) _)⟩
          · have hc4 : (1099511627776 : Int) < (qc : Int) := by omega
            go_wp2_with (first
              | ((with_reducible refine wpList_alloc_dot (by rfl) (by rfl) (some 4) (by rfl) M (unhide HM) ?_); intro W1 HX1 HB1 HS1; simp only [Act.put, List.setIfInBounds_toArray, List.set_cons_zero, List.set_cons_succ])
              | ((with_reducible refine wpList_store_dot (by rfl) (.tmp 4) (.tmp 14) (by rfl) M (qa : Int) (qc : Int) (by with_unfolding_all rfl) (by with_unfolding_all rfl) (unhide HX1) ?_); intro W2 HX2 HE2; simp only [Act.put]; obtain ⟨y0, y1⟩ := box2 (unhide HX2))
              | fail)
            go_ret
            exact ⟨by rw [unhide HB]; rfl, unhide HK _ (by rw [unhide HE2]; exact belowRow (unhide HB1) (Nat.le_refl _) _)⟩
      · obtain rfl : k = n := by omega
        have hki : ¬ (k : Int) < (k : Int) := by omega
        go_wp2
        go_ret
        refine ⟨?_, (unhide HI).1⟩
        rw [unhide HT fun i hi => (unhide HI).2 i hi (by rw [unhide HLN]; exact hi)]
        rfl
  · have e : V.okB l = false := V.okB_false.2 fun ho => h64 ho.len
    rw [e]
    have hi : ¬ (l.length : Int) ≤ 64 := by omega
    have hi2 : (64 : Int) < (l.length : Int) := by omega
    go_enter Try.func39, Try.ntmps39
    go_wp2
    go_ret
    exact ⟨rfl, by rw [unhide HN]; exact Below.refl _ _⟩
end Go.Proofs.Ytbahfpcfjhifbaa
