/- Vectors: Count, Covers, Next. -/
import Derived.Test.YtbahfpcfjhifbaaXd
namespace Go.Proofs.Ytbahfpcfjhifbaa
open Go.RowKit
set_option maxRecDepth 100000 in
set_option maxHeartbeats 2000000 in
theorem vCount (l : List (Nat × Nat)) (ao : Option Addr) (c x : Nat) (u : World) (h : DAt u l ao) : Calls Try.prog 74 #[.slice ao l.length c, .int .u32 (x : Int)] u fun e u' => e = .returned (.int .u64 (V.cntV l x : Nat)) ∧ Below u.heap.size u u' := by
  have HV := hide (vValid l ao c u h)
  have HQ := hide h.lies
  obtain ⟨N, hN⟩ : ∃ N, N = u.heap.size := ⟨_, rfl⟩
  have HN := hide hN
  rw [← hN] at HV ⊢
  clear hN
  cases hok : V.okB l with
  | false =>
    rw [show V.cntV l x = 0 by unfold V.cntV; rw [hok]; rfl]
    rw [hok] at HV
    go_enter Try.func74, Try.ntmps74
    go_wp2_with (first | (go_at_call 39; refine (unhide HV).mono ?_; rintro e w1 ⟨rfl, hb1⟩) | fail)
    go_ret
    exact ⟨rfl, hb1⟩
  | true =>
    have hl64 : l.length ≤ 64 := (V.okB_true.1 hok).len
    rw [show V.cntV l x = V.cnt l x by unfold V.cntV; rw [hok]; rfl]
    rw [hok] at HV
    have HA : Hid (∀ i (hi : i < l.length), (∀ j (hj : j < l.length), j < i → l[j].1 ≠ x) → l[i].1 = x → V.cnt l x = l[i].2) := fun i hi hn he => by
      rw [← he]; exact V.cnt_at hi fun j hj hji => by rw [he]; exact hn j hj hji
    have HZ : Hid ((∀ j (hj : j < l.length), l[j].1 ≠ x) → V.cnt l x = 0) := fun hn => V.cnt_none hn
    generalize V.cnt l x = r at *
    obtain ⟨n, hn⟩ : ∃ n, n = l.length := ⟨_, rfl⟩
    have HLN := hide hn
    rw [← hn] at hl64 HV ⊢
    have h64i : (n : Int) ≤ 64 := by omega
    clear hn h hok
    go_enter Try.func74, Try.ntmps74
    go_wp2_with (first | (go_at_call 39; refine (unhide HV).mono ?_; rintro e w1 ⟨rfl, hb1⟩; have HB0 := hide hb1; clear hb1) | fail)
    go_loopw [12] (fun i wr => ∃ k : Nat, k ≤ n ∧ i = .int .i64 k ∧ Hid (Below N u wr ∧ ∀ j (hj : j < l.length), j < k → l[j].1 ≠ x)) (fun i _ => n - (intOf i).toNat)
    case atStart => exact ⟨0, Nat.zero_le _, rfl, unhide HB0, fun j _ hj => absurd hj (Nat.not_lt_zero _)⟩
    case round =>
      obtain ⟨k, hk, rfl, HI⟩ := hrel
      by_cases hlt : k < n
      · have hki : (k : Int) < (n : Int) := by omega
        have hkl : k < l.length := by rw [← unhide HLN]; exact hlt
        obtain ⟨g, o, hao, c1, c2⟩ := ((unhide HQ).below (by rw [← unhide HN]; exact (unhide HI).1)).dt hkl
        subst hao
        have hix := ixD g o n c k hlt
        obtain ⟨M, hM⟩ : ∃ M, M = wr.heap.size := ⟨_, rfl⟩
        have HM := hide hM
        have HMN : Hid (N ≤ M) := by rw [hM, unhide HN]; exact (unhide HI).1.size
        clear hM
        have HK : Hid (∀ W : World, Below M wr W → Below N u W) := fun W hW => (unhide HI).1.trans (hW.mono (unhide HMN))
        have HR : Hid (l[k].1 ≠ x → ∀ j (hj : j < l.length), j < k + 1 → l[j].1 ≠ x) := fun hg j hj hjk => by
          rcases Nat.lt_succ_iff_lt_or_eq.1 hjk with h | rfl
          · exact (unhide HI).2 j hj h
          · exact hg
        have HA1 := hide (unhide HA k hkl (unhide HI).2)
        generalize l[k] = q at *
        obtain ⟨qa, qc⟩ := q
        have c1 : wr.cell? ⟨g, o + k * 2, none⟩ = some (.int .u32 (qa : Int)) := c1
        have c2 : wr.cell? ⟨g, o + k * 2 + 1, none⟩ = some (.int .u64 (qc : Int)) := c2
        clear HI HA
        generalize o + k * 2 = oo at *
        by_cases hax : qa = x
        · have HRV := hide (unhide HA1 hax)
          subst hax
          go_wp2_with (first
            | ((with_reducible refine wpList_alloc_dot (by rfl) (by rfl) (some 6) (by rfl) M (unhide HM) ?_); intro W1 HX1 HB1 HS1; simp only [Act.put, List.setIfInBounds_toArray, List.set_cons_zero, List.set_cons_succ])
            | ((with_reducible refine wpList_store_dot (by rfl) (.tmp 6) (.tmp 15) (by rfl) M (qa : Int) (qc : Int) (by with_unfolding_all rfl) (by with_unfolding_all rfl) (unhide HX1) ?_); intro W2 HX2 HE2; simp only [Act.put]; obtain ⟨y0, y1⟩ := box2 (unhide HX2))
            | fail)
          go_ret
          exact ⟨by rw [unhide HRV]; rfl, unhide HK _ (by rw [unhide HE2]; exact belowRow (unhide HB1) (Nat.le_refl _) _)⟩
        · have hxi : ¬ (qa : Int) = (x : Int) := by omega
          go_wp2_with (first
            | ((with_reducible refine wpList_alloc_dot (by rfl) (by rfl) (some 6) (by rfl) M (unhide HM) ?_); intro W1 HX1 HB1 HS1; simp only [Act.put, List.setIfInBounds_toArray, List.set_cons_zero, List.set_cons_succ])
            | ((with_reducible refine wpList_store_dot (by rfl) (.tmp 6) (.tmp 15) (by rfl) M (qa : Int) (qc : Int) (by with_unfolding_all rfl) (by with_unfolding_all rfl) (unhide HX1) ?_); intro W2 HX2 HE2; simp only [Act.put]; obtain ⟨y0, y1⟩ := box2 (unhide HX2))
            | fail)
          go_roundw
          case rel => exact ⟨k + 1, by omega, by go_num, unhide HK _ (by rw [unhide HE2]; exact belowRow (unhide HB1) (Nat.le_refl _) _), unhide HR hax⟩
          case measure => simp [intOf]; omega
      · obtain rfl : k = n := by omega
        have hki : ¬ (k : Int) < (k : Int) := by omega
        have HRV := hide (unhide HZ fun j hj => (unhide HI).2 j hj (by rw [unhide HLN]; exact hj))
        go_wp2
        go_ret
        exact ⟨by rw [unhide HRV]; rfl, (unhide HI).1⟩
/-- is a dot covered -/
noncomputable def covB (l : List (Nat × Nat)) (d : Nat × Nat) : Bool := decide (1 ≤ d.2 ∧ d.2 ≤ V.cntV l d.1)
set_option maxRecDepth 100000 in
set_option maxHeartbeats 2000000 in
theorem vCovers (l : List (Nat × Nat)) (ao : Option Addr) (c : Nat) (d : Nat × Nat) (u : World) (h : DAt u l ao) : Calls Try.prog 35 #[.slice ao l.length c, .agg #[.int .u32 (d.1 : Int), .int .u64 (d.2 : Int)]] u fun e u' => e = .returned (.bool (covB l d)) ∧ Below u.heap.size u u' := by
  obtain ⟨qa, qc⟩ := d
  have HC := hide (fun (w : World) (hw : Below u.heap.size u w) => vCount l ao c qa w (h.below hw))
  show Calls Try.prog 35 #[.slice ao l.length c, .agg #[.int .u32 (qa : Int), .int .u64 (qc : Int)]] u _
  have HE : Hid (covB l (qa, qc) = decide (1 ≤ qc ∧ qc ≤ V.cntV l qa)) := rfl
  rw [unhide HE]
  obtain ⟨N, hN⟩ : ∃ N, N = u.heap.size := ⟨_, rfl⟩
  have HN := hide hN
  rw [← hN] at HC ⊢
  clear hN h HE
  generalize V.cntV l qa = m at *
  generalize l.length = n at *
  by_cases h1 : 1 ≤ qc
  · have h1i : (1 : Int) ≤ (qc : Int) := by omega
    obtain ⟨r, hr⟩ : ∃ r, r = decide (qc ≤ m) := ⟨_, rfl⟩
    have HR : Hid (decide (1 ≤ qc ∧ qc ≤ m) = r) := by rw [hr]; simp [h1, Hid]
    rw [unhide HR]
    have hr2 : decide ((qc : Int) ≤ (m : Int)) = r := by rw [hr]; simp
    have hr3 : decide (qc ≤ m) = r := hr.symm
    clear hr HR
    go_enter Try.func35, Try.ntmps35
    go_wp2_with (first
      | ((with_reducible refine wpList_box_dot (by rfl) (.tmp 1) (by rfl) (some 3) (by rfl) N (unhide HN) (qa : Int) (qc : Int) (by with_unfolding_all rfl) ?_); intro W1 HX1 HB1 HS1; simp only [Act.put, List.setIfInBounds_toArray, List.set_cons_zero, List.set_cons_succ]; obtain ⟨y0, y1⟩ := box2 (unhide HX1))
      | fail)
    go_region_held3 (fun v => v.cell? ⟨N, 0, none⟩ = some (.int .u32 (qa : Int)) ∧ v.cell? ⟨N, 1, none⟩ = some (.int .u64 (qc : Int))) (first | exact ⟨y0, y1⟩ | exact ⟨z0, z1⟩ | (go_keep; done)) (first
      | (go_at_call 74; refine (unhide HC _ (belowDrew (unhide HB1))).mono ?_; rintro e w2 ⟨rfl, hb2⟩; obtain ⟨z0, z1⟩ := box2 (box_below (W := W1.drew) (unhide HX1) hb2); have HB2 : Hid (Below N u w2) := (belowDrew (unhide HB1)).trans (hb2.mono (show N ≤ W1.heap.size by rw [unhide HS1]; omega)); clear hb2)
      | fail)
    go_wp2
    go_ret
    exact ⟨rfl, unhide HB2⟩
  · have h1i : ¬ (1 : Int) ≤ (qc : Int) := by omega
    have HR : Hid (decide (1 ≤ qc ∧ qc ≤ m) = false) := by simp only [Hid, decide_eq_false_iff_not]; omega
    rw [unhide HR]
    have hr2 : decide ((1 : Int) ≤ (qc : Int)) = false := decide_eq_false h1i
    have hr3 : decide (1 ≤ qc) = false := decide_eq_false h1
    clear HR h1i h1
    go_enter Try.func35, Try.ntmps35
    go_wp2_with (first
      | ((with_reducible refine wpList_box_dot (by rfl) (.tmp 1) (by rfl) (some 3) (by rfl) N (unhide HN) (qa : Int) (qc : Int) (by with_unfolding_all rfl) ?_); intro W1 HX1 HB1 HS1; simp only [Act.put, List.setIfInBounds_toArray, List.set_cons_zero, List.set_cons_succ]; obtain ⟨y0, y1⟩ := box2 (unhide HX1))
      | fail)
    go_quiet (fail)
    go_wp2
    go_ret
    exact ⟨rfl, belowDrewN (unhide HB1) _⟩
/-- what Next answers -/
noncomputable def nextV (l : List (Nat × Nat)) (x : Nat) : (Nat × Nat) × Int := if V.okB l then (if V.cnt l x = 1099511627776 then ((0, 0), 101) else ((x, V.cnt l x + 1), 0)) else ((0, 0), 100)
end Go.Proofs.Ytbahfpcfjhifbaa
