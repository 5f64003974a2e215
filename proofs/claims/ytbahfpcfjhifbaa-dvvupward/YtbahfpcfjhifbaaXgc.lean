/- Vectors, the document's side: Covers, Below, Compare, Next. -/
import Derived.Test.YtbahfpcfjhifbaaXgb
namespace Go.Proofs.Ytbahfpcfjhifbaa
open Go.RowKit
set_option maxRecDepth 100000 in
set_option maxHeartbeats 2000000 in
theorem rCovers (l : List (Nat × Nat)) (ao : Option Addr) (c : Nat) (d : Nat × Nat) (u : World) (h : DAt u l ao) : Calls Try.prog 45 #[.slice ao l.length c, .agg #[.int .u32 (d.1 : Int), .int .u64 (d.2 : Int)]] u fun e u' => e = .returned (.bool (covB l d)) ∧ Below u.heap.size u u' := by
  obtain ⟨qa, qc⟩ := d
  have HC := hide (fun (w : World) (hw : Below u.heap.size u w) => rCount l ao c qa w (h.below hw))
  show Calls Try.prog 45 #[.slice ao l.length c, .agg #[.int .u32 (qa : Int), .int .u64 (qc : Int)]] u _
  have HE : Hid (covB l (qa, qc) = decide (1 ≤ qc ∧ qc ≤ V.cntV l qa)) := rfl
  rw [unhide HE]
  obtain ⟨N, hN⟩ : ∃ N, N = u.heap.size := ⟨_, rfl⟩
  have HN := hide hN
  rw [← hN] at HC ⊢
  clear hN h HE
  generalize V.cntV l qa = m at *
  generalize l.length = n at *
  by_cases h1 : 1 ≤ qc
  · have h1i : (1 : Int) ≤ (qc : Int) := by omega
    obtain ⟨r, hr⟩ : ∃ r, r = decide (qc ≤ m) := ⟨_, rfl⟩
    have HR : Hid (decide (1 ≤ qc ∧ qc ≤ m) = r) := by rw [hr]; simp [h1, Hid]
    rw [unhide HR]
    have hr2 : decide ((qc : Int) ≤ (m : Int)) = r := by rw [hr]; simp
    have hr3 : decide (qc ≤ m) = r := hr.symm
    clear hr HR
    go_enter Try.func45, Try.ntmps45
    go_wp2_with (first
      | ((with_reducible refine wpList_box_dot (by rfl) (.tmp 1) (by rfl) (some 3) (by rfl) N (unhide HN) (qa : Int) (qc : Int) (by with_unfolding_all rfl) ?_); intro W1 HX1 HB1 HS1; simp only [Act.put, List.setIfInBounds_toArray, List.set_cons_zero, List.set_cons_succ]; obtain ⟨y0, y1⟩ := box2 (unhide HX1))
      | fail)
    go_region_held3 (fun v => v.cell? ⟨N, 0, none⟩ = some (.int .u32 (qa : Int)) ∧ v.cell? ⟨N, 1, none⟩ = some (.int .u64 (qc : Int))) (first | exact ⟨y0, y1⟩ | exact ⟨z0, z1⟩ | (go_keep; done)) (first
      | (go_at_call 57; refine (unhide HC _ (belowDrew (unhide HB1))).mono ?_; rintro e w2 ⟨rfl, z, hz⟩; have HX2 : Hid (w2.heap[N]? = _) := (by rw [hz]; exact unhide HX1); obtain ⟨z0, z1⟩ := box2 (unhide HX2); have HB2 : Hid (Below N u w2) := (by rw [hz]; exact belowDrewN (belowDrew (unhide HB1)) _); clear hz)
      | fail)
    go_wp2
    go_ret
    exact ⟨rfl, unhide HB2⟩
  · have h1i : ¬ (1 : Int) ≤ (qc : Int) := by omega
    have HR : Hid (decide (1 ≤ qc ∧ qc ≤ m) = false) := by simp only [Hid, decide_eq_false_iff_not]; omega
    rw [unhide HR]
    have hr2 : decide ((1 : Int) ≤ (qc : Int)) = false := decide_eq_false h1i
    have hr3 : decide (1 ≤ qc) = false := decide_eq_false h1
    clear HR h1i h1
    go_enter Try.func45, Try.ntmps45
    go_wp2_with (first
      | ((with_reducible refine wpList_box_dot (by rfl) (.tmp 1) (by rfl) (some 3) (by rfl) N (unhide HN) (qa : Int) (qc : Int) (by with_unfolding_all rfl) ?_); intro W1 HX1 HB1 HS1; simp only [Act.put, List.setIfInBounds_toArray, List.set_cons_zero, List.set_cons_succ]; obtain ⟨y0, y1⟩ := box2 (unhide HX1))
      | fail)
    go_quiet (fail)
    go_wp2
    go_ret
    exact ⟨rfl, belowDrewN (unhide HB1) _⟩
theorem bel_at {a b : List (Nat × Nat)} (ha : V.Ok a) (hb : V.Ok b) : belB a b = true ↔ ∀ j (hj : j < a.length), a[j].2 ≤ V.cntV b a[j].1 := by
  have hc : ∀ x, V.cntV b x = V.cnt b x := fun x => by unfold V.cntV; rw [V.okB_true.2 hb]; rfl
  rw [belB_true ha hb]
  constructor
  · intro h j hj
    rw [hc, ← V.cnt_mem ha.up (List.getElem_mem hj)]
    exact h _
  · intro h k
    by_cases h0 : V.cnt a k = 0
    · omega
    · obtain ⟨d, hd, h1, h2⟩ := V.cnt_pos h0
      obtain ⟨j, hj, rfl⟩ := List.getElem_of_mem hd
      have := h j hj
      rw [hc, h1] at this
      omega
set_option maxRecDepth 100000 in
set_option maxHeartbeats 2000000 in
theorem rBelow (a b : List (Nat × Nat)) (aa ba : Option Addr) (ca cb : Nat) (u : World) (ha : DAt u a aa) (hb : DAt u b ba) :
    Calls Try.prog 49 #[.slice aa a.length ca, .slice ba b.length cb] u fun e u' => e = .returned (.bool (belB a b)) ∧ ∃ z, u' = u.drewN z := by
  have HV := hide (rValid a aa ca u ha)
  have HW := hide (fun z => rValid b ba cb (u.drewN z) ⟨hb.lies, hb.fits, hb.len⟩)
  cases h1 : V.okB a with
  | false =>
    rw [show belB a b = false by unfold belB; rw [h1]; rfl]
    rw [h1] at HV
    clear ha hb HW
    go_enter Try.func49, Try.ntmps49
    go_wp2_with (first | (go_at_call 43; refine (unhide HV).mono ?_; rintro e w1 ⟨rfl, z, rfl⟩) | fail)
    go_ret
    exact ⟨rfl, z, rfl⟩
  | true =>
    rw [h1] at HV
    cases h2 : V.okB b with
    | false =>
      rw [show belB a b = false by unfold belB; rw [h1, h2]; rfl]
      rw [h2] at HW
      clear ha hb
      go_enter Try.func49, Try.ntmps49
      go_wp2_with (first
        | (go_at_call 43; have _t := HV; refine (unhide HV).mono ?_; rintro e w1 ⟨rfl, z, rfl⟩; clear HV _t)
        | (go_at_call 43; refine (unhide HW _).mono ?_; rintro e w2 ⟨rfl, z2, hz2⟩; rw [World.drewN_drewN] at hz2; subst hz2)
        | fail)
      go_ret
      exact ⟨rfl, z + z2, rfl⟩
    | true =>
      have ok1 := V.okB_true.1 h1
      have ok2 := V.okB_true.1 h2
      rw [h2] at HW
      have HT : Hid ((∀ j (hj : j < a.length), a[j].2 ≤ V.cntV b a[j].1) → belB a b = true) := (bel_at ok1 ok2).2
      have HE : Hid (∀ j (hj : j < a.length), ¬ a[j].2 ≤ V.cntV b a[j].1 → belB a b = false) := fun j hj hn => by
        cases h : belB a b
        · rfl
        · exact absurd ((bel_at ok1 ok2).1 h j hj) hn
      have HC : Hid (∀ (x z n : Nat), Calls Try.prog 57 #[.slice ba b.length cb, .int .u32 (x : Int)] ((u.drewN z).drewN n) fun e u' => e = .returned (.int .u64 (V.cntV b x : Nat)) ∧ ∃ z', u' = ((u.drewN z).drewN n).drewN z') := fun x z n => rCount b ba cb x ((u.drewN z).drewN n) ⟨hb.lies, hb.fits, hb.len⟩
      have HQ := hide ha.lies
      have hl64 : a.length ≤ 64 := ok1.len
      generalize belB a b = ok at *
      obtain ⟨n, hn⟩ : ∃ n, n = a.length := ⟨_, rfl⟩
      have HLN := hide hn
      rw [← hn] at hl64 HV ⊢
      have h64i : (n : Int) ≤ 64 := by omega
      clear hn ha hb ok1 ok2 h1 h2
      generalize b.length = nb at *
      go_enter Try.func49, Try.ntmps49
      go_wp2_with (first
        | (go_at_call 43; have _t := HV; refine (unhide HV).mono ?_; rintro e w1 ⟨rfl, z, rfl⟩; clear HV _t)
        | (go_at_call 43; refine (unhide HW _).mono ?_; rintro e w2 ⟨rfl, z2, hz2⟩; rw [World.drewN_drewN] at hz2; subst hz2)
        | fail)
      go_loopw [5] (fun i wr => ∃ k : Nat, k ≤ n ∧ i = .int .i64 k ∧ Hid ((∃ z, wr = u.drewN z) ∧ ∀ j (hj : j < a.length), j < k → a[j].2 ≤ V.cntV b a[j].1)) (fun i _ => n - (intOf i).toNat)
      case atStart => exact ⟨0, Nat.zero_le _, rfl, ⟨z + z2, rfl⟩, fun j _ hj => absurd hj (Nat.not_lt_zero _)⟩
      case round =>
        obtain ⟨k, hk, rfl, HI⟩ := hrel
        obtain ⟨z3, hz3⟩ := (unhide HI).1
        have HJ := hide (unhide HI).2
        clear HI
        subst hz3
        by_cases hlt : k < n
        · have hki : (k : Int) < (n : Int) := by omega
          have hkl : k < a.length := by rw [← unhide HLN]; exact hlt
          obtain ⟨g, o, hao, c1, c2⟩ := (unhide HQ).dt hkl
          subst hao
          have hix := ixD g o n ca k hlt
          have HR : Hid (a[k].2 ≤ V.cntV b a[k].1 → ∀ j (hj : j < a.length), j < k + 1 → a[j].2 ≤ V.cntV b a[j].1) := fun hg j hj hjk => by
            rcases Nat.lt_succ_iff_lt_or_eq.1 hjk with h | rfl
            · exact unhide HJ j hj h
            · exact hg
          have HE1 := hide (unhide HE k hkl)
          clear HE HJ
          generalize a[k] = q at *
          obtain ⟨qa, qc⟩ := q
          have c1 : u.cell? ⟨g, o + k * 2, none⟩ = some (.int .u32 (qa : Int)) := c1
          have c2 : u.cell? ⟨g, o + k * 2 + 1, none⟩ = some (.int .u64 (qc : Int)) := c2
          have HC1 := hide (fun n => unhide HC qa z3 n)
          have c1 : (u.drewN z3).cell? ⟨g, o + k * 2, none⟩ = some (.int .u32 (qa : Int)) := c1
          have c2 : (u.drewN z3).cell? ⟨g, o + k * 2 + 1, none⟩ = some (.int .u64 (qc : Int)) := c2
          generalize hWZ : u.drewN z3 = WZ at *
          have HWZ := hide hWZ
          clear hWZ
          have HR : Hid (qc ≤ V.cntV b qa → ∀ j (hj : j < a.length), j < k + 1 → a[j].2 ≤ V.cntV b a[j].1) := HR
          have HE1 : Hid (¬ qc ≤ V.cntV b qa → ok = false) := HE1
          generalize V.cntV b qa = m at *
          generalize o + k * 2 = oo at *
          by_cases hqm : qc ≤ m
          · have hd : decide ((m : Int) < (qc : Int)) = false := decide_eq_false (by omega)
            have hd2 : decide (m < qc) = false := decide_eq_false (by omega)
            have HG := hide (unhide HR hqm)
            go_wp2_with fail
            go_quiet ((go_at_call 57; exact Calls.quiet_of (unhide HC1 _)))
            go_wp2
            go_roundw
            case rel => exact ⟨k + 1, by omega, by go_num, ⟨z3 + nq, by rw [← unhide HWZ, World.drewN_drewN]⟩, unhide HG⟩
            case measure => simp [intOf]; omega
          · have hd1 : (m : Int) < (qc : Int) := by omega
            have hd : decide ((m : Int) < (qc : Int)) = true := decide_eq_true (by omega)
            have hd2 : decide (m < qc) = true := decide_eq_true (by omega)
            have HB := hide (unhide HE1 hqm)
            go_wp2_with fail
            go_quiet ((go_at_call 57; exact Calls.quiet_of (unhide HC1 _)))
            go_wp2
            go_ret
            exact ⟨by rw [unhide HB]; rfl, z3 + nq, by rw [← unhide HWZ, World.drewN_drewN]⟩
        · obtain rfl : k = n := by omega
          have hki : ¬ (k : Int) < (k : Int) := by omega
          have HB := hide (unhide HT fun j hj => unhide HJ j hj (by rw [unhide HLN]; exact hj))
          go_wp2
          go_ret
          exact ⟨by rw [unhide HB]; rfl, z3, rfl⟩
end Go.Proofs.Ytbahfpcfjhifbaa
