/- Sorting numbers of 64 bits: pdqsort. Written by mksom.py. -/
import Derived.Test.YtopabadnbelegaaQSol
namespace Go.Proofs.Ytopabadnbelegaa.K
open Go.RowKit Go.Lib
theorem quiet_any {P : Program} {f : FuncId} {args : Array Value} {w : World} {a n : Nat} {v : Value}
    (h : Calls P f args (w.drewN (a + n)) fun e w' => e = .returned v ∧ w' = w.drewN (a + n)) : Calls P f args (w.drewN (a + n)) fun e w'' => e = .returned v ∧ ∃ m, w'' = w.drewN (a + m) := quiet_same2 h
set_option maxRecDepth 100000 in
set_option maxHeartbeats 16000000 in
theorem kPdq (g c n N : Nat) (t : TypeId) (hm : n < 65536) (m : Nat) : ∀ (a b limit : Nat) (d : Array (BitVec 64)) (u : World), b - a ≤ m → Rw u g t N d → n = d.size → a ≤ b → b ≤ n → limit ≤ 64 → Calls Try.prog 42 #[.slice (some ⟨g, 0, none⟩) n c, .int .i64 (a : Int), .int .i64 (b : Int), .int .i64 (limit : Int)] u fun e u' => e = .returned (.tuple #[]) ∧ So u u' g t N (Sort.pdq ltB d a b limit true true) ∧ (Sort.pdq ltB d a b limit true true).size = n := by
  induction m using Nat.strongRecOn with
  | ind m ih =>
    intro a b limit d u hbm h hn hab hb hlim
    have HIH := hide (fun (a' b' lim' : Nat) (d' : Array (BitVec 64)) (w : World) (hlt : b' - a' < m) (hr : Rw w g t N d') (hz : n = d'.size) (h1 : a' ≤ b') (h2 : b' ≤ n) (h3 : lim' ≤ 64) => ih (b' - a') hlt a' b' lim' d' w (Nat.le_refl _) hr hz h1 h2 h3)
    have HI := hide (fun i (hi : i < n) => ixW g n c i hi)
    have HL := hide (fun x y w => kLess x y w)
    have HS0 : Hid (So u u g t N d) := ⟨h, Alt.refl _ _⟩
    have HN := hide hn
    have HAB0 : Hid (a ≤ b ∧ b ≤ n ∧ b - a ≤ m) := ⟨hab, hb, hbm⟩
    have ha0 : (a : Int) ≤ 65536 := by omega
    have hb0 : (b : Int) ≤ 65536 := by omega
    have hl0 : (limit : Int) ≤ 64 := by omega
    clear ih h hn hab hb hbm hlim
    go_enter Try.func42, Try.ntmps42
    go_wp2
    go_loopw [1, 2, 3, 8, 9] (fun s5 s6 s7 s8 s9 wr => ∃ (A B lim : Nat) (wb wp : Bool) (dk : Array (BitVec 64)), s5 = .int .i64 (A : Int) ∧ s6 = .int .i64 (B : Int) ∧ s7 = .int .i64 (lim : Int) ∧ s8 = .bool wb ∧ s9 = .bool wp ∧ (A : Int) ≤ 65536 ∧ (B : Int) ≤ 65536 ∧ (lim : Int) ≤ 64 ∧ Hid (A ≤ B ∧ B ≤ n ∧ B - A ≤ m) ∧ Hid (dk.size = n) ∧ Hid (So u wr g t N dk) ∧ Hid (Sort.pdq ltB dk A B lim wb wp = Sort.pdq ltB d a b limit true true)) (fun s5 s6 _ _ _ _ => (intOf s6).toNat - (intOf s5).toNat)
    case atStart => exact ⟨a, b, limit, true, true, d, rfl, rfl, rfl, rfl, rfl, ha0, hb0, hl0, HAB0, (unhide HN).symm, HS0, rfl⟩
    case round =>
      clear HS0 HAB0 ha0 hb0 hl0
      obtain ⟨A, B, lim, wb, wp, dk, rfl, rfl, rfl, rfl, rfl, hA, hB, hl, HAB, HZ, HS, HO⟩ := hrel
      obtain ⟨L, hL⟩ : ∃ L, L = B - A := ⟨_, rfl⟩
      have hLi : (B : Int) - (A : Int) = (L : Int) := by have := unhide HAB; omega
      have hLb : (L : Int) ≤ 65536 := by omega
      have HLL := hide hL
      clear hL
      by_cases h12 : L ≤ 12
      · have h12i : (L : Int) ≤ 12 := by omega
        have KI := hide (kIns g c A B n N t dk _ (unhide HS).rw' (unhide HZ).symm (unhide HAB).1 (unhide HAB).2.1 (by omega))
        have HEN : Hid (Sort.pdq ltB d a b limit true true = Sort.insertionSort ltB dk A B) := by
          show _ = _
          rw [← unhide HO, Sort.pdq, if_pos (by have := unhide HLL; omega)]
        clear h12
        go_wp2_with (first
          | (go_at_call 55; refine (unhide KI).mono ?_; rintro e wi ⟨rfl, HQ⟩; replace HQ := hide ((unhide HS).then HQ); clear KI)
          | fail)
        go_returns
        rw [unhide HEN]
        exact ⟨rfl, unhide HQ, (insS_size A B dk).trans (unhide HZ)⟩
      · have h12i : ¬ (L : Int) ≤ 12 := by omega
        by_cases hl0 : lim = 0
        · have hl0i : (lim : Int) = 0 := by omega
          have KH := hide (kHeap g c A B n N t dk _ (unhide HS).rw' (unhide HZ).symm (by have := unhide HLL; omega) (unhide HAB).2.1 (by omega))
          have HEN : Hid (Sort.pdq ltB d a b limit true true = Sort.heapSort ltB dk A B) := by
            show _ = _
            rw [← unhide HO, Sort.pdq, if_neg (by have := unhide HLL; omega), if_pos hl0]
          clear h12 hl0
          go_wp2_with (first
            | (go_at_call 56; refine (unhide KH).mono ?_; rintro e wi ⟨rfl, HQ⟩; replace HQ := hide ((unhide HS).then HQ); clear KH)
            | fail)
          go_returns
          rw [unhide HEN]
          exact ⟨rfl, unhide HQ, (heap_size A B dk).trans (unhide HZ)⟩
        · have hl0i : ¬ (lim : Int) = 0 := by omega
          have h12' : ¬ B - A ≤ 12 := by rw [← unhide HLL]; exact h12
          have hAB12 : A + 12 < B := by omega
          cases wb with
          | false =>
            obtain ⟨d1, hd1'⟩ : ∃ d1, d1 = Sort.breakPatterns dk A B := ⟨_, rfl⟩
            obtain ⟨l1, hl1'⟩ : ∃ l1, l1 = lim - 1 := ⟨_, rfl⟩
            have HLM : Hid ((lim : Int) - 1 = (l1 : Int)) := by show _ = _; omega
            have HLW : Hid (wrap64 ((lim : Int) - 1) = (l1 : Int)) := by show _ = _; simp only [wrap64]; omega
            have hl1b : (l1 : Int) ≤ 64 := by omega
            have hd1 : (if (!false) = true then Sort.breakPatterns dk A B else dk) = d1 := by rw [hd1']; rfl
            have hl1 : (if (!false) = true then lim - 1 else lim) = l1 := by rw [hl1']; rfl
            have HZ1 : Hid (d1.size = n) := by rw [hd1']; exact (Sort.breakPatterns_holds dk A B (by omega) (by rw [unhide HZ]; exact (unhide HAB).2.1)).1.trans (unhide HZ)
            have KB := hide (kBrk g c A B n N t dk _ (unhide HS).rw' (unhide HZ).symm (by omega) (unhide HAB).2.1 hm)
            rw [← hd1'] at KB
            clear hd1' hl1'
            go_wp2_with (first
              | (go_at_call 57; refine (unhide KB).mono ?_; rintro e wb2 ⟨rfl, HQ⟩; replace HQ := hide ((unhide HS).then HQ); clear KB)
              | fail)
            clear HS
            have HS := HQ
            clear HQ
            first | rw [unhide HLM] | rw [unhide HLW] | skip
            have hcp := Sort.choosePivot_holds ltB d1 A B (by omega)
            have KV := hide (kPiv g c A B n N t d1 _ (unhide HS).rw' (unhide HZ1).symm (by omega) (unhide HAB).2.1 (by omega))
            generalize hc : Sort.choosePivot ltB d1 A B = cp at *
            obtain ⟨p, hh⟩ := cp
            dsimp only at KV hcp
            cases hh with
            | unknown =>
              rw [show hintN Sort.Hint.unknown = 0 from rfl] at KV
              refine (unhide KV).mono ?_
              rintro e wv ⟨he, HV⟩
              obtain rfl := he
              replace HV := hide ((unhide HS).then HV)
              clear HS KV
              have HS := HV
              clear HV
              obtain ⟨pv, hpv⟩ : ∃ pv, pv = p := ⟨_, rfl⟩
              have HPB : Hid (A ≤ pv ∧ pv < B) := by rw [hpv]; exact hcp
              have hpb : (p : Int) ≤ 65536 := by omega
              obtain ⟨d2, hd2⟩ : ∃ d2, d2 = d1 := ⟨_, rfl⟩
              have HZ2 : Hid (d2.size = n) := by rw [hd2]; exact HZ1
              have h3 : (if Sort.Hint.unknown = .decreasing then Sort.reverseRange d1 A B else d1) = d2 := by rw [if_neg (by decide), hd2]
              have h4 : (if Sort.Hint.unknown = .decreasing then (B - 1) - (p - A) else p) = pv := by rw [if_neg (by decide), hpv]
              rw [← hd2] at HS
              rw [← hpv]
              clear hpv hd2
              have h5 : (if (false && wp && decide ((if Sort.Hint.unknown = .decreasing then Sort.Hint.increasing else Sort.Hint.unknown) = .increasing)) = true then Sort.partialInsertionSort ltB d2 A B else (d2, false)) = (d2, false) := by simp
              have HT : Hid (pdT d2 A B pv l1 false wp = Sort.pdq ltB d a b limit true true) := by
                show _ = _
                rw [← unhide HO, pdq_round dk A B lim false wp (by omega) hl0 d1 d2 l1 p pv _ (d2, false) hd1 hl1 hc h3 h4 h5 (unhide HPB).1 (unhide HPB).2 (by dsimp only; rw [unhide HZ2]; exact (unhide HAB).2.1)]
                rfl
              obtain ⟨d3, hd3⟩ : ∃ d3, d3 = d2 := ⟨_, rfl⟩
              rw [← hd3] at HT HZ2 HS
              have HZ3 := HZ2
              clear hd3 h3 h4 h5 hc hd1 hl1 hcp HZ2 HO hl0 h12
              go_wp2
              as_aux_lemma =>
                have hpvb : (pv : Int) ≤ 65536 := by have := unhide HPB; omega
                have hzp : pv < d3.size := by rw [unhide HZ3]; have := unhide HPB; have := unhide HAB; omega
                by_cases hA0 : A > 0
                · have hA0i : (A : Int) > 0 := by omega
                  have hza : A - 1 < d3.size := by rw [unhide HZ3]; have := unhide HPB; have := unhide HAB; omega
                  obtain ⟨c1, f1⟩ := (unhide HS).rw'.cell (A - 1) hza
                  obtain ⟨c2, f2⟩ := (unhide HS).rw'.cell pv hzp
                  have ix1 := unhide HI (A - 1) (by rw [unhide HZ3] at hza; exact hza)
                  have ix2 := unhide HI pv (by rw [unhide HZ3] at hzp; exact hzp)
                  have ix3 := ix1
                  rw [show ((A - 1 : Nat) : Int) = (A : Int) - 1 by omega] at ix3
                  obtain ⟨y1, hy1⟩ : ∃ y, y = d3[A - 1]! := ⟨_, rfl⟩
                  obtain ⟨y2, hy2⟩ : ∃ y, y = d3[pv]! := ⟨_, rfl⟩
                  rw [← hy1] at c1
                  rw [← hy2] at c2
                  have HY1 := hide hy1.symm
                  have HY2 := hide hy2.symm
                  clear hy1 hy2 hza hzp
                  cases hls : ltB y1 y2 with
                  | false =>
                    have HLS := hide (fun w => unhide HL y1 y2 w)
                    rw [hls] at HLS
                    have hcond : (decide (A > 0) && !ltB d3[A - 1]! d3[pv]!) = true := by rw [unhide HY1, unhide HY2, hls, decide_eq_true hA0]; rfl
                    clear hls
                    go_quiet (first | exact Calls.quiet_of_same (unhide HLS _) | exact quiet_any (unhide HLS _) | fail)
                    have HS9 := hide (show So u _ g t N d3 from (unhide HS).drewN nq)
                    clear HS c1 c2 f1 f2 ix1 ix2 ix3 HLS HY1 HY2
                    have HS := HS9
                    clear HS9
                    have HTQ := unhide HT
                    unfold pdT at HTQ
                    rw [if_pos hcond] at HTQ
                    have KE := hide (fun w (hr : Rw w g t N d3) => kPeq g c A B pv n N t d3 w hr (unhide HZ3).symm (unhide HPB).1 (unhide HPB).2 (unhide HAB).2.1 (by omega))
                    have f1 := peqS_facts A B pv d3 (by omega)
                    generalize Sort.partitionEqual ltB d3 A B pv = r at *
                    obtain ⟨mid, d4⟩ := r
                    dsimp only at KE f1 HTQ
                    have HO4 := hide HTQ
                    have HZ4 : Hid (d4.size = n) := f1.2.2.trans (unhide HZ3)
                    have HMI : Hid (A < mid ∧ mid ≤ B) := ⟨f1.1, f1.2.1⟩
                    have hmb : (mid : Int) ≤ 65536 := by omega
                    have HAB4 : Hid (mid ≤ B ∧ B ≤ n ∧ B - mid ≤ m) := by have := unhide HAB; exact ⟨by omega, by omega, by omega⟩
                    clear HTQ f1 hcond HT
                    go_wp2_with (first
                      | (go_at_call 62; refine (unhide KE _ (unhide HS).rw').mono ?_; rintro e wq ⟨rfl, HQ⟩; replace HQ := hide ((unhide HS).then HQ); clear KE)
                      | fail)
                    go_roundw
                    case rel => exact ⟨mid, B, l1, false, wp, d4, by first | rfl | go_num, by first | rfl | go_num, by first | rfl | go_num, by first | rfl | (congr 1) | simp, by first | rfl | simp, hmb, hB, hl1b, HAB4, HZ4, HQ, HO4⟩
                    case measure => have := unhide HMI; simp [intOf]; omega
                  | true =>
                    have HLS := hide (fun w => unhide HL y1 y2 w)
                    rw [hls] at HLS
                    have hcond : ¬ (decide (A > 0) && !ltB d3[A - 1]! d3[pv]!) = true := by rw [unhide HY1, unhide HY2, hls]; simp
                    clear hls
                    go_quiet (first | exact Calls.quiet_of_same (unhide HLS _) | exact quiet_any (unhide HLS _) | fail)
                    have HS9 := hide (show So u _ g t N d3 from (unhide HS).drewN nq)
                    clear HS c1 c2 f1 f2 ix1 ix2 ix3 HLS HY1 HY2
                    have HS := HS9
                    clear HS9
                    have HTQ := unhide HT
                    unfold pdT at HTQ
                    rw [if_neg hcond] at HTQ
                    have KP := hide (fun w (hr : Rw w g t N d3) => kPart g c A B pv n N t d3 w hr (unhide HZ3).symm (unhide HPB).1 (unhide HPB).2 (unhide HAB).2.1 (by omega))
                    have f1 := partS_facts A B pv d3 (unhide HPB).1 (unhide HPB).2 (by rw [unhide HZ3]; exact (unhide HAB).2.1)
                    generalize Sort.partition ltB d3 A B pv = r at *
                    obtain ⟨mid, ap, d4⟩ := r
                    dsimp only at KP f1 HTQ
                    have HZ4 : Hid (d4.size = n) := f1.2.2.trans (unhide HZ3)
                    have HMI : Hid (A ≤ mid ∧ mid < B) := ⟨f1.1, f1.2.1⟩
                    have hmb : (mid : Int) ≤ 65536 := by omega
                    obtain ⟨lft, hlft⟩ : ∃ x, x = mid - A := ⟨_, rfl⟩
                    obtain ⟨rgt, hrgt⟩ : ∃ x, x = B - mid := ⟨_, rfl⟩
                    obtain ⟨T, hT⟩ : ∃ T, T = L / 8 := ⟨_, rfl⟩
                    have hT2 : T = (B - A) / 8 := by rw [hT, unhide HLL]
                    have hq8 : (L : Int).tdiv 8 = (T : Int) := by rw [Int.tdiv_eq_ediv_of_nonneg (by omega)]; omega
                    have hlfi : (mid : Int) - (A : Int) = (lft : Int) := by omega
                    have hrgi : (B : Int) - (mid : Int) = (rgt : Int) := by omega
                    have hlfb : (lft : Int) ≤ 65536 := by omega
                    have hrgb : (rgt : Int) ≤ 65536 := by omega
                    have hTb : (T : Int) ≤ 65536 := by omega
                    obtain ⟨m1, hm1⟩ : ∃ m1, m1 = mid + 1 := ⟨_, rfl⟩
                    have HM1 : Hid ((mid : Int) + 1 = ((mid + 1 : Nat) : Int)) := by show _ = _; omega
                    have HMW : Hid (wrap64 ((mid : Int) + 1) = ((mid + 1 : Nat) : Int)) := by show _ = _; simp only [wrap64]; omega
                    clear hT f1 hcond HT hm1
                    by_cases hcl : lft < rgt
                    · have hcmp : (lft : Int) < (rgt : Int) := by omega
                      have HIHx := hide (fun w (hr : Rw w g t N d4) => unhide HIH (A) (mid) l1 d4 w (by have := unhide HMI; have := unhide HAB; omega) hr (unhide HZ4).symm (by have := unhide HMI; omega) (by have := unhide HMI; have := unhide HAB; omega) (by omega))
                      have HO5 : Hid (Sort.pdq ltB (Sort.pdq ltB d4 (A) (mid) l1 true true) (mid + 1) (B) l1 (decide (lft ≥ T)) ap = Sort.pdq ltB d a b limit true true) := by
                        show _ = _
                        have q := HTQ
                        rw [if_pos (by omega : mid - A < B - mid)] at q
                        rw [← hT2, ← hlft] at q
                        exact q
                      obtain ⟨d5, hd5⟩ : ∃ d5, d5 = Sort.pdq ltB d4 (A) (mid) l1 true true := ⟨_, rfl⟩
                      rw [← hd5] at HIHx HO5
                      have hnm : ((mid + 1 : Nat) : Int) ≤ 65536 := by have := unhide HMI; omega
                      have hnm2 : ((B : Nat) : Int) ≤ 65536 := by have := unhide HMI; omega
                      have HNA := hide hnm
                      have HNB := hide hnm2
                      have HAB5 : Hid (mid + 1 ≤ B ∧ B ≤ n ∧ B - (mid + 1) ≤ m) := by have := unhide HAB; have := unhide HMI; exact ⟨by omega, by omega, by omega⟩
                      clear HTQ hlft hrgt hT2 hd5 hnm hnm2 hcl
                      go_wp2_with (first
                        | (go_at_call 63; refine (unhide KP _ (unhide HS).rw').mono ?_; rintro e wq ⟨rfl, HQ⟩; replace HQ := hide ((unhide HS).then HQ); clear KP)
                        | fail)

                      refine (unhide HIHx _ (unhide HQ).rw').mono ?_
                      rintro e wq2 ⟨he, HR, hz5⟩
                      obtain rfl := he
                      replace HR := hide ((unhide HQ).then HR)
                      have HZ5 := hide hz5
                      clear hz5 HIHx
                      go_wp2
                      go_roundw
                      case rel => exact ⟨mid + 1, B, l1, (decide (lft ≥ T)), ap, d5, by first | rfl | go_num, by first | rfl | go_num, by first | rfl | go_num, by first | rfl | (congr 1) | simp, by first | rfl | simp, unhide HNA, unhide HNB, hl1b, HAB5, HZ5, HR, HO5⟩
                      case measure => have := unhide HMI; have := unhide HAB; simp [intOf]; omega
                    · have hcmp : ¬ (lft : Int) < (rgt : Int) := by omega
                      have HIHx := hide (fun w (hr : Rw w g t N d4) => unhide HIH (mid + 1) (B) l1 d4 w (by have := unhide HMI; have := unhide HAB; omega) hr (unhide HZ4).symm (by have := unhide HMI; omega) (by have := unhide HMI; have := unhide HAB; omega) (by omega))
                      have HO5 : Hid (Sort.pdq ltB (Sort.pdq ltB d4 (mid + 1) (B) l1 true true) (A) (mid) l1 (decide (rgt ≥ T)) ap = Sort.pdq ltB d a b limit true true) := by
                        show _ = _
                        have q := HTQ
                        rw [if_neg (by omega : ¬ mid - A < B - mid)] at q
                        rw [← hT2, ← hrgt] at q
                        exact q
                      obtain ⟨d5, hd5⟩ : ∃ d5, d5 = Sort.pdq ltB d4 (mid + 1) (B) l1 true true := ⟨_, rfl⟩
                      rw [← hd5] at HIHx HO5
                      have hnm : ((A : Nat) : Int) ≤ 65536 := by have := unhide HMI; omega
                      have hnm2 : ((mid : Nat) : Int) ≤ 65536 := by have := unhide HMI; omega
                      have HNA := hide hnm
                      have HNB := hide hnm2
                      have HAB5 : Hid (A ≤ mid ∧ mid ≤ n ∧ mid - (A) ≤ m) := by have := unhide HAB; have := unhide HMI; exact ⟨by omega, by omega, by omega⟩
                      clear HTQ hlft hrgt hT2 hd5 hnm hnm2 hcl
                      go_wp2_with (first
                        | (go_at_call 63; refine (unhide KP _ (unhide HS).rw').mono ?_; rintro e wq ⟨rfl, HQ⟩; replace HQ := hide ((unhide HS).then HQ); clear KP)
                        | fail)
                      first | rw [unhide HM1] | rw [unhide HMW] | skip
                      refine (unhide HIHx _ (unhide HQ).rw').mono ?_
                      rintro e wq2 ⟨he, HR, hz5⟩
                      obtain rfl := he
                      replace HR := hide ((unhide HQ).then HR)
                      have HZ5 := hide hz5
                      clear hz5 HIHx
                      go_wp2
                      go_roundw
                      case rel => exact ⟨A, mid, l1, (decide (rgt ≥ T)), ap, d5, by first | rfl | go_num, by first | rfl | go_num, by first | rfl | go_num, by first | rfl | (congr 1) | simp, by first | rfl | simp, unhide HNA, unhide HNB, hl1b, HAB5, HZ5, HR, HO5⟩
                      case measure => have := unhide HMI; have := unhide HAB; simp [intOf]; omega
                · have hA0i : ¬ (A : Int) > 0 := by omega
                  have hA0d : decide (0 < A) = false := decide_eq_false hA0
                  have hcond : ¬ (decide (A > 0) && !ltB d3[A - 1]! d3[pv]!) = true := by rw [decide_eq_false hA0]; simp
                  go_quiet (first | fail)
                  have HS9 := hide (show So u _ g t N d3 from (unhide HS).drewN nq)
                  clear HS hzp
                  have HS := HS9
                  clear HS9
                  have HTQ := unhide HT
                  unfold pdT at HTQ
                  rw [if_neg hcond] at HTQ
                  have KP := hide (fun w (hr : Rw w g t N d3) => kPart g c A B pv n N t d3 w hr (unhide HZ3).symm (unhide HPB).1 (unhide HPB).2 (unhide HAB).2.1 (by omega))
                  have f1 := partS_facts A B pv d3 (unhide HPB).1 (unhide HPB).2 (by rw [unhide HZ3]; exact (unhide HAB).2.1)
                  generalize Sort.partition ltB d3 A B pv = r at *
                  obtain ⟨mid, ap, d4⟩ := r
                  dsimp only at KP f1 HTQ
                  have HZ4 : Hid (d4.size = n) := f1.2.2.trans (unhide HZ3)
                  have HMI : Hid (A ≤ mid ∧ mid < B) := ⟨f1.1, f1.2.1⟩
                  have hmb : (mid : Int) ≤ 65536 := by omega
                  obtain ⟨lft, hlft⟩ : ∃ x, x = mid - A := ⟨_, rfl⟩
                  obtain ⟨rgt, hrgt⟩ : ∃ x, x = B - mid := ⟨_, rfl⟩
                  obtain ⟨T, hT⟩ : ∃ T, T = L / 8 := ⟨_, rfl⟩
                  have hT2 : T = (B - A) / 8 := by rw [hT, unhide HLL]
                  have hq8 : (L : Int).tdiv 8 = (T : Int) := by rw [Int.tdiv_eq_ediv_of_nonneg (by omega)]; omega
                  have hlfi : (mid : Int) - (A : Int) = (lft : Int) := by omega
                  have hrgi : (B : Int) - (mid : Int) = (rgt : Int) := by omega
                  have hlfb : (lft : Int) ≤ 65536 := by omega
                  have hrgb : (rgt : Int) ≤ 65536 := by omega
                  have hTb : (T : Int) ≤ 65536 := by omega
                  obtain ⟨m1, hm1⟩ : ∃ m1, m1 = mid + 1 := ⟨_, rfl⟩
                  have HM1 : Hid ((mid : Int) + 1 = ((mid + 1 : Nat) : Int)) := by show _ = _; omega
                  have HMW : Hid (wrap64 ((mid : Int) + 1) = ((mid + 1 : Nat) : Int)) := by show _ = _; simp only [wrap64]; omega
                  clear hT f1 hcond HT hm1
                  by_cases hcl : lft < rgt
                  · have hcmp : (lft : Int) < (rgt : Int) := by omega
                    have HIHx := hide (fun w (hr : Rw w g t N d4) => unhide HIH (A) (mid) l1 d4 w (by have := unhide HMI; have := unhide HAB; omega) hr (unhide HZ4).symm (by have := unhide HMI; omega) (by have := unhide HMI; have := unhide HAB; omega) (by omega))
                    have HO5 : Hid (Sort.pdq ltB (Sort.pdq ltB d4 (A) (mid) l1 true true) (mid + 1) (B) l1 (decide (lft ≥ T)) ap = Sort.pdq ltB d a b limit true true) := by
                      show _ = _
                      have q := HTQ
                      rw [if_pos (by omega : mid - A < B - mid)] at q
                      rw [← hT2, ← hlft] at q
                      exact q
                    obtain ⟨d5, hd5⟩ : ∃ d5, d5 = Sort.pdq ltB d4 (A) (mid) l1 true true := ⟨_, rfl⟩
                    rw [← hd5] at HIHx HO5
                    have hnm : ((mid + 1 : Nat) : Int) ≤ 65536 := by have := unhide HMI; omega
                    have hnm2 : ((B : Nat) : Int) ≤ 65536 := by have := unhide HMI; omega
                    have HNA := hide hnm
                    have HNB := hide hnm2
                    have HAB5 : Hid (mid + 1 ≤ B ∧ B ≤ n ∧ B - (mid + 1) ≤ m) := by have := unhide HAB; have := unhide HMI; exact ⟨by omega, by omega, by omega⟩
                    clear HTQ hlft hrgt hT2 hd5 hnm hnm2 hcl
                    go_wp2_with (first
                      | (go_at_call 63; refine (unhide KP _ (unhide HS).rw').mono ?_; rintro e wq ⟨rfl, HQ⟩; replace HQ := hide ((unhide HS).then HQ); clear KP)
                      | fail)

                    refine (unhide HIHx _ (unhide HQ).rw').mono ?_
                    rintro e wq2 ⟨he, HR, hz5⟩
                    obtain rfl := he
                    replace HR := hide ((unhide HQ).then HR)
                    have HZ5 := hide hz5
                    clear hz5 HIHx
                    go_wp2
                    go_roundw
                    case rel => exact ⟨mid + 1, B, l1, (decide (lft ≥ T)), ap, d5, by first | rfl | go_num, by first | rfl | go_num, by first | rfl | go_num, by first | rfl | (congr 1) | simp, by first | rfl | simp, unhide HNA, unhide HNB, hl1b, HAB5, HZ5, HR, HO5⟩
                    case measure => have := unhide HMI; have := unhide HAB; simp [intOf]; omega
                  · have hcmp : ¬ (lft : Int) < (rgt : Int) := by omega
                    have HIHx := hide (fun w (hr : Rw w g t N d4) => unhide HIH (mid + 1) (B) l1 d4 w (by have := unhide HMI; have := unhide HAB; omega) hr (unhide HZ4).symm (by have := unhide HMI; omega) (by have := unhide HMI; have := unhide HAB; omega) (by omega))
                    have HO5 : Hid (Sort.pdq ltB (Sort.pdq ltB d4 (mid + 1) (B) l1 true true) (A) (mid) l1 (decide (rgt ≥ T)) ap = Sort.pdq ltB d a b limit true true) := by
                      show _ = _
                      have q := HTQ
                      rw [if_neg (by omega : ¬ mid - A < B - mid)] at q
                      rw [← hT2, ← hrgt] at q
                      exact q
                    obtain ⟨d5, hd5⟩ : ∃ d5, d5 = Sort.pdq ltB d4 (mid + 1) (B) l1 true true := ⟨_, rfl⟩
                    rw [← hd5] at HIHx HO5
                    have hnm : ((A : Nat) : Int) ≤ 65536 := by have := unhide HMI; omega
                    have hnm2 : ((mid : Nat) : Int) ≤ 65536 := by have := unhide HMI; omega
                    have HNA := hide hnm
                    have HNB := hide hnm2
                    have HAB5 : Hid (A ≤ mid ∧ mid ≤ n ∧ mid - (A) ≤ m) := by have := unhide HAB; have := unhide HMI; exact ⟨by omega, by omega, by omega⟩
                    clear HTQ hlft hrgt hT2 hd5 hnm hnm2 hcl
                    go_wp2_with (first
                      | (go_at_call 63; refine (unhide KP _ (unhide HS).rw').mono ?_; rintro e wq ⟨rfl, HQ⟩; replace HQ := hide ((unhide HS).then HQ); clear KP)
                      | fail)
                    first | rw [unhide HM1] | rw [unhide HMW] | skip
                    refine (unhide HIHx _ (unhide HQ).rw').mono ?_
                    rintro e wq2 ⟨he, HR, hz5⟩
                    obtain rfl := he
                    replace HR := hide ((unhide HQ).then HR)
                    have HZ5 := hide hz5
                    clear hz5 HIHx
                    go_wp2
                    go_roundw
                    case rel => exact ⟨A, mid, l1, (decide (rgt ≥ T)), ap, d5, by first | rfl | go_num, by first | rfl | go_num, by first | rfl | go_num, by first | rfl | (congr 1) | simp, by first | rfl | simp, unhide HNA, unhide HNB, hl1b, HAB5, HZ5, HR, HO5⟩
                    case measure => have := unhide HMI; have := unhide HAB; simp [intOf]; omega
            | increasing =>
              rw [show hintN Sort.Hint.increasing = 1 from rfl] at KV
              refine (unhide KV).mono ?_
              rintro e wv ⟨he, HV⟩
              obtain rfl := he
              replace HV := hide ((unhide HS).then HV)
              clear HS KV
              have HS := HV
              clear HV
              obtain ⟨pv, hpv⟩ : ∃ pv, pv = p := ⟨_, rfl⟩
              have HPB : Hid (A ≤ pv ∧ pv < B) := by rw [hpv]; exact hcp
              have hpb : (p : Int) ≤ 65536 := by omega
              obtain ⟨d2, hd2⟩ : ∃ d2, d2 = d1 := ⟨_, rfl⟩
              have HZ2 : Hid (d2.size = n) := by rw [hd2]; exact HZ1
              have h3 : (if Sort.Hint.increasing = .decreasing then Sort.reverseRange d1 A B else d1) = d2 := by rw [if_neg (by decide), hd2]
              have h4 : (if Sort.Hint.increasing = .decreasing then (B - 1) - (p - A) else p) = pv := by rw [if_neg (by decide), hpv]
              rw [← hd2] at HS
              rw [← hpv]
              clear hpv hd2
              have h5 : (if (false && wp && decide ((if Sort.Hint.increasing = .decreasing then Sort.Hint.increasing else Sort.Hint.increasing) = .increasing)) = true then Sort.partialInsertionSort ltB d2 A B else (d2, false)) = (d2, false) := by simp
              have HT : Hid (pdT d2 A B pv l1 false wp = Sort.pdq ltB d a b limit true true) := by
                show _ = _
                rw [← unhide HO, pdq_round dk A B lim false wp (by omega) hl0 d1 d2 l1 p pv _ (d2, false) hd1 hl1 hc h3 h4 h5 (unhide HPB).1 (unhide HPB).2 (by dsimp only; rw [unhide HZ2]; exact (unhide HAB).2.1)]
                rfl
              obtain ⟨d3, hd3⟩ : ∃ d3, d3 = d2 := ⟨_, rfl⟩
              rw [← hd3] at HT HZ2 HS
              have HZ3 := HZ2
              clear hd3 h3 h4 h5 hc hd1 hl1 hcp HZ2 HO hl0 h12
              go_wp2
              as_aux_lemma =>
                have hpvb : (pv : Int) ≤ 65536 := by have := unhide HPB; omega
                have hzp : pv < d3.size := by rw [unhide HZ3]; have := unhide HPB; have := unhide HAB; omega
                by_cases hA0 : A > 0
                · have hA0i : (A : Int) > 0 := by omega
                  have hza : A - 1 < d3.size := by rw [unhide HZ3]; have := unhide HPB; have := unhide HAB; omega
                  obtain ⟨c1, f1⟩ := (unhide HS).rw'.cell (A - 1) hza
                  obtain ⟨c2, f2⟩ := (unhide HS).rw'.cell pv hzp
                  have ix1 := unhide HI (A - 1) (by rw [unhide HZ3] at hza; exact hza)
                  have ix2 := unhide HI pv (by rw [unhide HZ3] at hzp; exact hzp)
                  have ix3 := ix1
                  rw [show ((A - 1 : Nat) : Int) = (A : Int) - 1 by omega] at ix3
                  obtain ⟨y1, hy1⟩ : ∃ y, y = d3[A - 1]! := ⟨_, rfl⟩
                  obtain ⟨y2, hy2⟩ : ∃ y, y = d3[pv]! := ⟨_, rfl⟩
                  rw [← hy1] at c1
                  rw [← hy2] at c2
                  have HY1 := hide hy1.symm
                  have HY2 := hide hy2.symm
                  clear hy1 hy2 hza hzp
                  cases hls : ltB y1 y2 with
                  | false =>
                    have HLS := hide (fun w => unhide HL y1 y2 w)
                    rw [hls] at HLS
                    have hcond : (decide (A > 0) && !ltB d3[A - 1]! d3[pv]!) = true := by rw [unhide HY1, unhide HY2, hls, decide_eq_true hA0]; rfl
                    clear hls
                    go_quiet (first | exact Calls.quiet_of_same (unhide HLS _) | exact quiet_any (unhide HLS _) | fail)
                    have HS9 := hide (show So u _ g t N d3 from (unhide HS).drewN nq)
                    clear HS c1 c2 f1 f2 ix1 ix2 ix3 HLS HY1 HY2
                    have HS := HS9
                    clear HS9
                    have HTQ := unhide HT
                    unfold pdT at HTQ
                    rw [if_pos hcond] at HTQ
                    have KE := hide (fun w (hr : Rw w g t N d3) => kPeq g c A B pv n N t d3 w hr (unhide HZ3).symm (unhide HPB).1 (unhide HPB).2 (unhide HAB).2.1 (by omega))
                    have f1 := peqS_facts A B pv d3 (by omega)
                    generalize Sort.partitionEqual ltB d3 A B pv = r at *
                    obtain ⟨mid, d4⟩ := r
                    dsimp only at KE f1 HTQ
                    have HO4 := hide HTQ
                    have HZ4 : Hid (d4.size = n) := f1.2.2.trans (unhide HZ3)
                    have HMI : Hid (A < mid ∧ mid ≤ B) := ⟨f1.1, f1.2.1⟩
                    have hmb : (mid : Int) ≤ 65536 := by omega
                    have HAB4 : Hid (mid ≤ B ∧ B ≤ n ∧ B - mid ≤ m) := by have := unhide HAB; exact ⟨by omega, by omega, by omega⟩
                    clear HTQ f1 hcond HT
                    go_wp2_with (first
                      | (go_at_call 62; refine (unhide KE _ (unhide HS).rw').mono ?_; rintro e wq ⟨rfl, HQ⟩; replace HQ := hide ((unhide HS).then HQ); clear KE)
                      | fail)
                    go_roundw
                    case rel => exact ⟨mid, B, l1, false, wp, d4, by first | rfl | go_num, by first | rfl | go_num, by first | rfl | go_num, by first | rfl | (congr 1) | simp, by first | rfl | simp, hmb, hB, hl1b, HAB4, HZ4, HQ, HO4⟩
                    case measure => have := unhide HMI; simp [intOf]; omega
                  | true =>
                    have HLS := hide (fun w => unhide HL y1 y2 w)
                    rw [hls] at HLS
                    have hcond : ¬ (decide (A > 0) && !ltB d3[A - 1]! d3[pv]!) = true := by rw [unhide HY1, unhide HY2, hls]; simp
                    clear hls
                    go_quiet (first | exact Calls.quiet_of_same (unhide HLS _) | exact quiet_any (unhide HLS _) | fail)
                    have HS9 := hide (show So u _ g t N d3 from (unhide HS).drewN nq)
                    clear HS c1 c2 f1 f2 ix1 ix2 ix3 HLS HY1 HY2
                    have HS := HS9
                    clear HS9
                    have HTQ := unhide HT
                    unfold pdT at HTQ
                    rw [if_neg hcond] at HTQ
                    have KP := hide (fun w (hr : Rw w g t N d3) => kPart g c A B pv n N t d3 w hr (unhide HZ3).symm (unhide HPB).1 (unhide HPB).2 (unhide HAB).2.1 (by omega))
                    have f1 := partS_facts A B pv d3 (unhide HPB).1 (unhide HPB).2 (by rw [unhide HZ3]; exact (unhide HAB).2.1)
                    generalize Sort.partition ltB d3 A B pv = r at *
                    obtain ⟨mid, ap, d4⟩ := r
                    dsimp only at KP f1 HTQ
                    have HZ4 : Hid (d4.size = n) := f1.2.2.trans (unhide HZ3)
                    have HMI : Hid (A ≤ mid ∧ mid < B) := ⟨f1.1, f1.2.1⟩
                    have hmb : (mid : Int) ≤ 65536 := by omega
                    obtain ⟨lft, hlft⟩ : ∃ x, x = mid - A := ⟨_, rfl⟩
                    obtain ⟨rgt, hrgt⟩ : ∃ x, x = B - mid := ⟨_, rfl⟩
                    obtain ⟨T, hT⟩ : ∃ T, T = L / 8 := ⟨_, rfl⟩
                    have hT2 : T = (B - A) / 8 := by rw [hT, unhide HLL]
                    have hq8 : (L : Int).tdiv 8 = (T : Int) := by rw [Int.tdiv_eq_ediv_of_nonneg (by omega)]; omega
                    have hlfi : (mid : Int) - (A : Int) = (lft : Int) := by omega
                    have hrgi : (B : Int) - (mid : Int) = (rgt : Int) := by omega
                    have hlfb : (lft : Int) ≤ 65536 := by omega
                    have hrgb : (rgt : Int) ≤ 65536 := by omega
                    have hTb : (T : Int) ≤ 65536 := by omega
                    obtain ⟨m1, hm1⟩ : ∃ m1, m1 = mid + 1 := ⟨_, rfl⟩
                    have HM1 : Hid ((mid : Int) + 1 = ((mid + 1 : Nat) : Int)) := by show _ = _; omega
                    have HMW : Hid (wrap64 ((mid : Int) + 1) = ((mid + 1 : Nat) : Int)) := by show _ = _; simp only [wrap64]; omega
                    clear hT f1 hcond HT hm1
                    by_cases hcl : lft < rgt
                    · have hcmp : (lft : Int) < (rgt : Int) := by omega
                      have HIHx := hide (fun w (hr : Rw w g t N d4) => unhide HIH (A) (mid) l1 d4 w (by have := unhide HMI; have := unhide HAB; omega) hr (unhide HZ4).symm (by have := unhide HMI; omega) (by have := unhide HMI; have := unhide HAB; omega) (by omega))
                      have HO5 : Hid (Sort.pdq ltB (Sort.pdq ltB d4 (A) (mid) l1 true true) (mid + 1) (B) l1 (decide (lft ≥ T)) ap = Sort.pdq ltB d a b limit true true) := by
                        show _ = _
                        have q := HTQ
                        rw [if_pos (by omega : mid - A < B - mid)] at q
                        rw [← hT2, ← hlft] at q
                        exact q
                      obtain ⟨d5, hd5⟩ : ∃ d5, d5 = Sort.pdq ltB d4 (A) (mid) l1 true true := ⟨_, rfl⟩
                      rw [← hd5] at HIHx HO5
                      have hnm : ((mid + 1 : Nat) : Int) ≤ 65536 := by have := unhide HMI; omega
                      have hnm2 : ((B : Nat) : Int) ≤ 65536 := by have := unhide HMI; omega
                      have HNA := hide hnm
                      have HNB := hide hnm2
                      have HAB5 : Hid (mid + 1 ≤ B ∧ B ≤ n ∧ B - (mid + 1) ≤ m) := by have := unhide HAB; have := unhide HMI; exact ⟨by omega, by omega, by omega⟩
                      clear HTQ hlft hrgt hT2 hd5 hnm hnm2 hcl
                      go_wp2_with (first
                        | (go_at_call 63; refine (unhide KP _ (unhide HS).rw').mono ?_; rintro e wq ⟨rfl, HQ⟩; replace HQ := hide ((unhide HS).then HQ); clear KP)
                        | fail)

                      refine (unhide HIHx _ (unhide HQ).rw').mono ?_
                      rintro e wq2 ⟨he, HR, hz5⟩
                      obtain rfl := he
                      replace HR := hide ((unhide HQ).then HR)
                      have HZ5 := hide hz5
                      clear hz5 HIHx
                      go_wp2
                      go_roundw
                      case rel => exact ⟨mid + 1, B, l1, (decide (lft ≥ T)), ap, d5, by first | rfl | go_num, by first | rfl | go_num, by first | rfl | go_num, by first | rfl | (congr 1) | simp, by first | rfl | simp, unhide HNA, unhide HNB, hl1b, HAB5, HZ5, HR, HO5⟩
                      case measure => have := unhide HMI; have := unhide HAB; simp [intOf]; omega
                    · have hcmp : ¬ (lft : Int) < (rgt : Int) := by omega
                      have HIHx := hide (fun w (hr : Rw w g t N d4) => unhide HIH (mid + 1) (B) l1 d4 w (by have := unhide HMI; have := unhide HAB; omega) hr (unhide HZ4).symm (by have := unhide HMI; omega) (by have := unhide HMI; have := unhide HAB; omega) (by omega))
                      have HO5 : Hid (Sort.pdq ltB (Sort.pdq ltB d4 (mid + 1) (B) l1 true true) (A) (mid) l1 (decide (rgt ≥ T)) ap = Sort.pdq ltB d a b limit true true) := by
                        show _ = _
                        have q := HTQ
                        rw [if_neg (by omega : ¬ mid - A < B - mid)] at q
                        rw [← hT2, ← hrgt] at q
                        exact q
                      obtain ⟨d5, hd5⟩ : ∃ d5, d5 = Sort.pdq ltB d4 (mid + 1) (B) l1 true true := ⟨_, rfl⟩
                      rw [← hd5] at HIHx HO5
                      have hnm : ((A : Nat) : Int) ≤ 65536 := by have := unhide HMI; omega
                      have hnm2 : ((mid : Nat) : Int) ≤ 65536 := by have := unhide HMI; omega
                      have HNA := hide hnm
                      have HNB := hide hnm2
                      have HAB5 : Hid (A ≤ mid ∧ mid ≤ n ∧ mid - (A) ≤ m) := by have := unhide HAB; have := unhide HMI; exact ⟨by omega, by omega, by omega⟩
                      clear HTQ hlft hrgt hT2 hd5 hnm hnm2 hcl
                      go_wp2_with (first
                        | (go_at_call 63; refine (unhide KP _ (unhide HS).rw').mono ?_; rintro e wq ⟨rfl, HQ⟩; replace HQ := hide ((unhide HS).then HQ); clear KP)
                        | fail)
                      first | rw [unhide HM1] | rw [unhide HMW] | skip
                      refine (unhide HIHx _ (unhide HQ).rw').mono ?_
                      rintro e wq2 ⟨he, HR, hz5⟩
                      obtain rfl := he
                      replace HR := hide ((unhide HQ).then HR)
                      have HZ5 := hide hz5
                      clear hz5 HIHx
                      go_wp2
                      go_roundw
                      case rel => exact ⟨A, mid, l1, (decide (rgt ≥ T)), ap, d5, by first | rfl | go_num, by first | rfl | go_num, by first | rfl | go_num, by first | rfl | (congr 1) | simp, by first | rfl | simp, unhide HNA, unhide HNB, hl1b, HAB5, HZ5, HR, HO5⟩
                      case measure => have := unhide HMI; have := unhide HAB; simp [intOf]; omega
                · have hA0i : ¬ (A : Int) > 0 := by omega
                  have hA0d : decide (0 < A) = false := decide_eq_false hA0
                  have hcond : ¬ (decide (A > 0) && !ltB d3[A - 1]! d3[pv]!) = true := by rw [decide_eq_false hA0]; simp
                  go_quiet (first | fail)
                  have HS9 := hide (show So u _ g t N d3 from (unhide HS).drewN nq)
                  clear HS hzp
                  have HS := HS9
                  clear HS9
                  have HTQ := unhide HT
                  unfold pdT at HTQ
                  rw [if_neg hcond] at HTQ
                  have KP := hide (fun w (hr : Rw w g t N d3) => kPart g c A B pv n N t d3 w hr (unhide HZ3).symm (unhide HPB).1 (unhide HPB).2 (unhide HAB).2.1 (by omega))
                  have f1 := partS_facts A B pv d3 (unhide HPB).1 (unhide HPB).2 (by rw [unhide HZ3]; exact (unhide HAB).2.1)
                  generalize Sort.partition ltB d3 A B pv = r at *
                  obtain ⟨mid, ap, d4⟩ := r
                  dsimp only at KP f1 HTQ
                  have HZ4 : Hid (d4.size = n) := f1.2.2.trans (unhide HZ3)
                  have HMI : Hid (A ≤ mid ∧ mid < B) := ⟨f1.1, f1.2.1⟩
                  have hmb : (mid : Int) ≤ 65536 := by omega
                  obtain ⟨lft, hlft⟩ : ∃ x, x = mid - A := ⟨_, rfl⟩
                  obtain ⟨rgt, hrgt⟩ : ∃ x, x = B - mid := ⟨_, rfl⟩
                  obtain ⟨T, hT⟩ : ∃ T, T = L / 8 := ⟨_, rfl⟩
                  have hT2 : T = (B - A) / 8 := by rw [hT, unhide HLL]
                  have hq8 : (L : Int).tdiv 8 = (T : Int) := by rw [Int.tdiv_eq_ediv_of_nonneg (by omega)]; omega
                  have hlfi : (mid : Int) - (A : Int) = (lft : Int) := by omega
                  have hrgi : (B : Int) - (mid : Int) = (rgt : Int) := by omega
                  have hlfb : (lft : Int) ≤ 65536 := by omega
                  have hrgb : (rgt : Int) ≤ 65536 := by omega
                  have hTb : (T : Int) ≤ 65536 := by omega
                  obtain ⟨m1, hm1⟩ : ∃ m1, m1 = mid + 1 := ⟨_, rfl⟩
                  have HM1 : Hid ((mid : Int) + 1 = ((mid + 1 : Nat) : Int)) := by show _ = _; omega
                  have HMW : Hid (wrap64 ((mid : Int) + 1) = ((mid + 1 : Nat) : Int)) := by show _ = _; simp only [wrap64]; omega
                  clear hT f1 hcond HT hm1
                  by_cases hcl : lft < rgt
                  · have hcmp : (lft : Int) < (rgt : Int) := by omega
                    have HIHx := hide (fun w (hr : Rw w g t N d4) => unhide HIH (A) (mid) l1 d4 w (by have := unhide HMI; have := unhide HAB; omega) hr (unhide HZ4).symm (by have := unhide HMI; omega) (by have := unhide HMI; have := unhide HAB; omega) (by omega))
                    have HO5 : Hid (Sort.pdq ltB (Sort.pdq ltB d4 (A) (mid) l1 true true) (mid + 1) (B) l1 (decide (lft ≥ T)) ap = Sort.pdq ltB d a b limit true true) := by
                      show _ = _
                      have q := HTQ
                      rw [if_pos (by omega : mid - A < B - mid)] at q
                      rw [← hT2, ← hlft] at q
                      exact q
                    obtain ⟨d5, hd5⟩ : ∃ d5, d5 = Sort.pdq ltB d4 (A) (mid) l1 true true := ⟨_, rfl⟩
                    rw [← hd5] at HIHx HO5
                    have hnm : ((mid + 1 : Nat) : Int) ≤ 65536 := by have := unhide HMI; omega
                    have hnm2 : ((B : Nat) : Int) ≤ 65536 := by have := unhide HMI; omega
                    have HNA := hide hnm
                    have HNB := hide hnm2
                    have HAB5 : Hid (mid + 1 ≤ B ∧ B ≤ n ∧ B - (mid + 1) ≤ m) := by have := unhide HAB; have := unhide HMI; exact ⟨by omega, by omega, by omega⟩
                    clear HTQ hlft hrgt hT2 hd5 hnm hnm2 hcl
                    go_wp2_with (first
                      | (go_at_call 63; refine (unhide KP _ (unhide HS).rw').mono ?_; rintro e wq ⟨rfl, HQ⟩; replace HQ := hide ((unhide HS).then HQ); clear KP)
                      | fail)

                    refine (unhide HIHx _ (unhide HQ).rw').mono ?_
                    rintro e wq2 ⟨he, HR, hz5⟩
                    obtain rfl := he
                    replace HR := hide ((unhide HQ).then HR)
                    have HZ5 := hide hz5
                    clear hz5 HIHx
                    go_wp2
                    go_roundw
                    case rel => exact ⟨mid + 1, B, l1, (decide (lft ≥ T)), ap, d5, by first | rfl | go_num, by first | rfl | go_num, by first | rfl | go_num, by first | rfl | (congr 1) | simp, by first | rfl | simp, unhide HNA, unhide HNB, hl1b, HAB5, HZ5, HR, HO5⟩
                    case measure => have := unhide HMI; have := unhide HAB; simp [intOf]; omega
                  · have hcmp : ¬ (lft : Int) < (rgt : Int) := by omega
                    have HIHx := hide (fun w (hr : Rw w g t N d4) => unhide HIH (mid + 1) (B) l1 d4 w (by have := unhide HMI; have := unhide HAB; omega) hr (unhide HZ4).symm (by have := unhide HMI; omega) (by have := unhide HMI; have := unhide HAB; omega) (by omega))
                    have HO5 : Hid (Sort.pdq ltB (Sort.pdq ltB d4 (mid + 1) (B) l1 true true) (A) (mid) l1 (decide (rgt ≥ T)) ap = Sort.pdq ltB d a b limit true true) := by
                      show _ = _
                      have q := HTQ
                      rw [if_neg (by omega : ¬ mid - A < B - mid)] at q
                      rw [← hT2, ← hrgt] at q
                      exact q
                    obtain ⟨d5, hd5⟩ : ∃ d5, d5 = Sort.pdq ltB d4 (mid + 1) (B) l1 true true := ⟨_, rfl⟩
                    rw [← hd5] at HIHx HO5
                    have hnm : ((A : Nat) : Int) ≤ 65536 := by have := unhide HMI; omega
                    have hnm2 : ((mid : Nat) : Int) ≤ 65536 := by have := unhide HMI; omega
                    have HNA := hide hnm
                    have HNB := hide hnm2
                    have HAB5 : Hid (A ≤ mid ∧ mid ≤ n ∧ mid - (A) ≤ m) := by have := unhide HAB; have := unhide HMI; exact ⟨by omega, by omega, by omega⟩
                    clear HTQ hlft hrgt hT2 hd5 hnm hnm2 hcl
                    go_wp2_with (first
                      | (go_at_call 63; refine (unhide KP _ (unhide HS).rw').mono ?_; rintro e wq ⟨rfl, HQ⟩; replace HQ := hide ((unhide HS).then HQ); clear KP)
                      | fail)
                    first | rw [unhide HM1] | rw [unhide HMW] | skip
                    refine (unhide HIHx _ (unhide HQ).rw').mono ?_
                    rintro e wq2 ⟨he, HR, hz5⟩
                    obtain rfl := he
                    replace HR := hide ((unhide HQ).then HR)
                    have HZ5 := hide hz5
                    clear hz5 HIHx
                    go_wp2
                    go_roundw
                    case rel => exact ⟨A, mid, l1, (decide (rgt ≥ T)), ap, d5, by first | rfl | go_num, by first | rfl | go_num, by first | rfl | go_num, by first | rfl | (congr 1) | simp, by first | rfl | simp, unhide HNA, unhide HNB, hl1b, HAB5, HZ5, HR, HO5⟩
                    case measure => have := unhide HMI; have := unhide HAB; simp [intOf]; omega
            | decreasing =>
              rw [show hintN Sort.Hint.decreasing = 2 from rfl] at KV
              refine (unhide KV).mono ?_
              rintro e wv ⟨he, HV⟩
              obtain rfl := he
              replace HV := hide ((unhide HS).then HV)
              clear HS KV
              have HS := HV
              clear HV
              obtain ⟨pv, hpv⟩ : ∃ pv, pv = (B - 1) - (p - A) := ⟨_, rfl⟩
              have hpb : (p : Int) ≤ 65536 := by omega
              have HPV : Hid ((B : Int) - 1 - ((p : Int) - (A : Int)) = (pv : Int)) := by show _ = _; omega
              have HPB : Hid (A ≤ pv ∧ pv < B) := ⟨by omega, by omega⟩
              obtain ⟨d2, hd2⟩ : ∃ d2, d2 = Sort.reverseRange d1 A B := ⟨_, rfl⟩
              have HZ2 : Hid (d2.size = n) := by rw [hd2]; exact (Sort.reverseRange_holds d1 A B (by omega) (by rw [unhide HZ1]; exact (unhide HAB).2.1)).1.trans (unhide HZ1)
              have KR := hide (kRev g c A B n N t d1 _ (unhide HS).rw' (unhide HZ1).symm (by omega) (unhide HAB).2.1 (by omega))
              rw [← hd2] at KR
              have h3 : (if Sort.Hint.decreasing = .decreasing then Sort.reverseRange d1 A B else d1) = d2 := by rw [if_pos rfl, hd2]
              have h4 : (if Sort.Hint.decreasing = .decreasing then (B - 1) - (p - A) else p) = pv := by rw [if_pos rfl, hpv]
              clear hpv hd2
              go_wp2_with (first
                | (go_at_call 59; refine (unhide KR).mono ?_; rintro e wr2 ⟨rfl, HQ⟩; replace HQ := hide ((unhide HS).then HQ); clear KR)
                | fail)
              clear HS
              have HS := HQ
              clear HQ
              have h5 : (if (false && wp && decide ((if Sort.Hint.decreasing = .decreasing then Sort.Hint.increasing else Sort.Hint.decreasing) = .increasing)) = true then Sort.partialInsertionSort ltB d2 A B else (d2, false)) = (d2, false) := by simp
              have HT : Hid (pdT d2 A B pv l1 false wp = Sort.pdq ltB d a b limit true true) := by
                show _ = _
                rw [← unhide HO, pdq_round dk A B lim false wp (by omega) hl0 d1 d2 l1 p pv _ (d2, false) hd1 hl1 hc h3 h4 h5 (unhide HPB).1 (unhide HPB).2 (by dsimp only; rw [unhide HZ2]; exact (unhide HAB).2.1)]
                rfl
              obtain ⟨d3, hd3⟩ : ∃ d3, d3 = d2 := ⟨_, rfl⟩
              rw [← hd3] at HT HZ2 HS
              have HZ3 := HZ2
              clear hd3 h3 h4 h5 hc hd1 hl1 hcp HZ2 HO hl0 h12
              go_wp2
              first | rw [unhide HPV] | skip
              as_aux_lemma =>
                have hpvb : (pv : Int) ≤ 65536 := by have := unhide HPB; omega
                have hzp : pv < d3.size := by rw [unhide HZ3]; have := unhide HPB; have := unhide HAB; omega
                by_cases hA0 : A > 0
                · have hA0i : (A : Int) > 0 := by omega
                  have hza : A - 1 < d3.size := by rw [unhide HZ3]; have := unhide HPB; have := unhide HAB; omega
                  obtain ⟨c1, f1⟩ := (unhide HS).rw'.cell (A - 1) hza
                  obtain ⟨c2, f2⟩ := (unhide HS).rw'.cell pv hzp
                  have ix1 := unhide HI (A - 1) (by rw [unhide HZ3] at hza; exact hza)
                  have ix2 := unhide HI pv (by rw [unhide HZ3] at hzp; exact hzp)
                  have ix3 := ix1
                  rw [show ((A - 1 : Nat) : Int) = (A : Int) - 1 by omega] at ix3
                  obtain ⟨y1, hy1⟩ : ∃ y, y = d3[A - 1]! := ⟨_, rfl⟩
                  obtain ⟨y2, hy2⟩ : ∃ y, y = d3[pv]! := ⟨_, rfl⟩
                  rw [← hy1] at c1
                  rw [← hy2] at c2
                  have HY1 := hide hy1.symm
                  have HY2 := hide hy2.symm
                  clear hy1 hy2 hza hzp
                  cases hls : ltB y1 y2 with
                  | false =>
                    have HLS := hide (fun w => unhide HL y1 y2 w)
                    rw [hls] at HLS
                    have hcond : (decide (A > 0) && !ltB d3[A - 1]! d3[pv]!) = true := by rw [unhide HY1, unhide HY2, hls, decide_eq_true hA0]; rfl
                    clear hls
                    go_quiet (first | exact Calls.quiet_of_same (unhide HLS _) | exact quiet_any (unhide HLS _) | fail)
                    have HS9 := hide (show So u _ g t N d3 from (unhide HS).drewN nq)
                    clear HS c1 c2 f1 f2 ix1 ix2 ix3 HLS HY1 HY2
                    have HS := HS9
                    clear HS9
                    have HTQ := unhide HT
                    unfold pdT at HTQ
                    rw [if_pos hcond] at HTQ
                    have KE := hide (fun w (hr : Rw w g t N d3) => kPeq g c A B pv n N t d3 w hr (unhide HZ3).symm (unhide HPB).1 (unhide HPB).2 (unhide HAB).2.1 (by omega))
                    have f1 := peqS_facts A B pv d3 (by omega)
                    generalize Sort.partitionEqual ltB d3 A B pv = r at *
                    obtain ⟨mid, d4⟩ := r
                    dsimp only at KE f1 HTQ
                    have HO4 := hide HTQ
                    have HZ4 : Hid (d4.size = n) := f1.2.2.trans (unhide HZ3)
                    have HMI : Hid (A < mid ∧ mid ≤ B) := ⟨f1.1, f1.2.1⟩
                    have hmb : (mid : Int) ≤ 65536 := by omega
                    have HAB4 : Hid (mid ≤ B ∧ B ≤ n ∧ B - mid ≤ m) := by have := unhide HAB; exact ⟨by omega, by omega, by omega⟩
                    clear HTQ f1 hcond HT
                    go_wp2_with (first
                      | (go_at_call 62; refine (unhide KE _ (unhide HS).rw').mono ?_; rintro e wq ⟨rfl, HQ⟩; replace HQ := hide ((unhide HS).then HQ); clear KE)
                      | fail)
                    go_roundw
                    case rel => exact ⟨mid, B, l1, false, wp, d4, by first | rfl | go_num, by first | rfl | go_num, by first | rfl | go_num, by first | rfl | (congr 1) | simp, by first | rfl | simp, hmb, hB, hl1b, HAB4, HZ4, HQ, HO4⟩
                    case measure => have := unhide HMI; simp [intOf]; omega
                  | true =>
                    have HLS := hide (fun w => unhide HL y1 y2 w)
                    rw [hls] at HLS
                    have hcond : ¬ (decide (A > 0) && !ltB d3[A - 1]! d3[pv]!) = true := by rw [unhide HY1, unhide HY2, hls]; simp
                    clear hls
                    go_quiet (first | exact Calls.quiet_of_same (unhide HLS _) | exact quiet_any (unhide HLS _) | fail)
                    have HS9 := hide (show So u _ g t N d3 from (unhide HS).drewN nq)
                    clear HS c1 c2 f1 f2 ix1 ix2 ix3 HLS HY1 HY2
                    have HS := HS9
                    clear HS9
                    have HTQ := unhide HT
                    unfold pdT at HTQ
                    rw [if_neg hcond] at HTQ
                    have KP := hide (fun w (hr : Rw w g t N d3) => kPart g c A B pv n N t d3 w hr (unhide HZ3).symm (unhide HPB).1 (unhide HPB).2 (unhide HAB).2.1 (by omega))
                    have f1 := partS_facts A B pv d3 (unhide HPB).1 (unhide HPB).2 (by rw [unhide HZ3]; exact (unhide HAB).2.1)
                    generalize Sort.partition ltB d3 A B pv = r at *
                    obtain ⟨mid, ap, d4⟩ := r
                    dsimp only at KP f1 HTQ
                    have HZ4 : Hid (d4.size = n) := f1.2.2.trans (unhide HZ3)
                    have HMI : Hid (A ≤ mid ∧ mid < B) := ⟨f1.1, f1.2.1⟩
                    have hmb : (mid : Int) ≤ 65536 := by omega
                    obtain ⟨lft, hlft⟩ : ∃ x, x = mid - A := ⟨_, rfl⟩
                    obtain ⟨rgt, hrgt⟩ : ∃ x, x = B - mid := ⟨_, rfl⟩
                    obtain ⟨T, hT⟩ : ∃ T, T = L / 8 := ⟨_, rfl⟩
                    have hT2 : T = (B - A) / 8 := by rw [hT, unhide HLL]
                    have hq8 : (L : Int).tdiv 8 = (T : Int) := by rw [Int.tdiv_eq_ediv_of_nonneg (by omega)]; omega
                    have hlfi : (mid : Int) - (A : Int) = (lft : Int) := by omega
                    have hrgi : (B : Int) - (mid : Int) = (rgt : Int) := by omega
                    have hlfb : (lft : Int) ≤ 65536 := by omega
                    have hrgb : (rgt : Int) ≤ 65536 := by omega
                    have hTb : (T : Int) ≤ 65536 := by omega
                    obtain ⟨m1, hm1⟩ : ∃ m1, m1 = mid + 1 := ⟨_, rfl⟩
                    have HM1 : Hid ((mid : Int) + 1 = ((mid + 1 : Nat) : Int)) := by show _ = _; omega
                    have HMW : Hid (wrap64 ((mid : Int) + 1) = ((mid + 1 : Nat) : Int)) := by show _ = _; simp only [wrap64]; omega
                    clear hT f1 hcond HT hm1
                    by_cases hcl : lft < rgt
                    · have hcmp : (lft : Int) < (rgt : Int) := by omega
                      have HIHx := hide (fun w (hr : Rw w g t N d4) => unhide HIH (A) (mid) l1 d4 w (by have := unhide HMI; have := unhide HAB; omega) hr (unhide HZ4).symm (by have := unhide HMI; omega) (by have := unhide HMI; have := unhide HAB; omega) (by omega))
                      have HO5 : Hid (Sort.pdq ltB (Sort.pdq ltB d4 (A) (mid) l1 true true) (mid + 1) (B) l1 (decide (lft ≥ T)) ap = Sort.pdq ltB d a b limit true true) := by
                        show _ = _
                        have q := HTQ
                        rw [if_pos (by omega : mid - A < B - mid)] at q
                        rw [← hT2, ← hlft] at q
                        exact q
                      obtain ⟨d5, hd5⟩ : ∃ d5, d5 = Sort.pdq ltB d4 (A) (mid) l1 true true := ⟨_, rfl⟩
                      rw [← hd5] at HIHx HO5
                      have hnm : ((mid + 1 : Nat) : Int) ≤ 65536 := by have := unhide HMI; omega
                      have hnm2 : ((B : Nat) : Int) ≤ 65536 := by have := unhide HMI; omega
                      have HNA := hide hnm
                      have HNB := hide hnm2
                      have HAB5 : Hid (mid + 1 ≤ B ∧ B ≤ n ∧ B - (mid + 1) ≤ m) := by have := unhide HAB; have := unhide HMI; exact ⟨by omega, by omega, by omega⟩
                      clear HTQ hlft hrgt hT2 hd5 hnm hnm2 hcl
                      go_wp2_with (first
                        | (go_at_call 63; refine (unhide KP _ (unhide HS).rw').mono ?_; rintro e wq ⟨rfl, HQ⟩; replace HQ := hide ((unhide HS).then HQ); clear KP)
                        | fail)

                      refine (unhide HIHx _ (unhide HQ).rw').mono ?_
                      rintro e wq2 ⟨he, HR, hz5⟩
                      obtain rfl := he
                      replace HR := hide ((unhide HQ).then HR)
                      have HZ5 := hide hz5
                      clear hz5 HIHx
                      go_wp2
                      go_roundw
                      case rel => exact ⟨mid + 1, B, l1, (decide (lft ≥ T)), ap, d5, by first | rfl | go_num, by first | rfl | go_num, by first | rfl | go_num, by first | rfl | (congr 1) | simp, by first | rfl | simp, unhide HNA, unhide HNB, hl1b, HAB5, HZ5, HR, HO5⟩
                      case measure => have := unhide HMI; have := unhide HAB; simp [intOf]; omega
                    · have hcmp : ¬ (lft : Int) < (rgt : Int) := by omega
                      have HIHx := hide (fun w (hr : Rw w g t N d4) => unhide HIH (mid + 1) (B) l1 d4 w (by have := unhide HMI; have := unhide HAB; omega) hr (unhide HZ4).symm (by have := unhide HMI; omega) (by have := unhide HMI; have := unhide HAB; omega) (by omega))
                      have HO5 : Hid (Sort.pdq ltB (Sort.pdq ltB d4 (mid + 1) (B) l1 true true) (A) (mid) l1 (decide (rgt ≥ T)) ap = Sort.pdq ltB d a b limit true true) := by
                        show _ = _
                        have q := HTQ
                        rw [if_neg (by omega : ¬ mid - A < B - mid)] at q
                        rw [← hT2, ← hrgt] at q
                        exact q
                      obtain ⟨d5, hd5⟩ : ∃ d5, d5 = Sort.pdq ltB d4 (mid + 1) (B) l1 true true := ⟨_, rfl⟩
                      rw [← hd5] at HIHx HO5
                      have hnm : ((A : Nat) : Int) ≤ 65536 := by have := unhide HMI; omega
                      have hnm2 : ((mid : Nat) : Int) ≤ 65536 := by have := unhide HMI; omega
                      have HNA := hide hnm
                      have HNB := hide hnm2
                      have HAB5 : Hid (A ≤ mid ∧ mid ≤ n ∧ mid - (A) ≤ m) := by have := unhide HAB; have := unhide HMI; exact ⟨by omega, by omega, by omega⟩
                      clear HTQ hlft hrgt hT2 hd5 hnm hnm2 hcl
                      go_wp2_with (first
                        | (go_at_call 63; refine (unhide KP _ (unhide HS).rw').mono ?_; rintro e wq ⟨rfl, HQ⟩; replace HQ := hide ((unhide HS).then HQ); clear KP)
                        | fail)
                      first | rw [unhide HM1] | rw [unhide HMW] | skip
                      refine (unhide HIHx _ (unhide HQ).rw').mono ?_
                      rintro e wq2 ⟨he, HR, hz5⟩
                      obtain rfl := he
                      replace HR := hide ((unhide HQ).then HR)
                      have HZ5 := hide hz5
                      clear hz5 HIHx
                      go_wp2
                      go_roundw
                      case rel => exact ⟨A, mid, l1, (decide (rgt ≥ T)), ap, d5, by first | rfl | go_num, by first | rfl | go_num, by first | rfl | go_num, by first | rfl | (congr 1) | simp, by first | rfl | simp, unhide HNA, unhide HNB, hl1b, HAB5, HZ5, HR, HO5⟩
                      case measure => have := unhide HMI; have := unhide HAB; simp [intOf]; omega
                · have hA0i : ¬ (A : Int) > 0 := by omega
                  have hA0d : decide (0 < A) = false := decide_eq_false hA0
                  have hcond : ¬ (decide (A > 0) && !ltB d3[A - 1]! d3[pv]!) = true := by rw [decide_eq_false hA0]; simp
                  go_quiet (first | fail)
                  have HS9 := hide (show So u _ g t N d3 from (unhide HS).drewN nq)
                  clear HS hzp
                  have HS := HS9
                  clear HS9
                  have HTQ := unhide HT
                  unfold pdT at HTQ
                  rw [if_neg hcond] at HTQ
                  have KP := hide (fun w (hr : Rw w g t N d3) => kPart g c A B pv n N t d3 w hr (unhide HZ3).symm (unhide HPB).1 (unhide HPB).2 (unhide HAB).2.1 (by omega))
                  have f1 := partS_facts A B pv d3 (unhide HPB).1 (unhide HPB).2 (by rw [unhide HZ3]; exact (unhide HAB).2.1)
                  generalize Sort.partition ltB d3 A B pv = r at *
                  obtain ⟨mid, ap, d4⟩ := r
                  dsimp only at KP f1 HTQ
                  have HZ4 : Hid (d4.size = n) := f1.2.2.trans (unhide HZ3)
                  have HMI : Hid (A ≤ mid ∧ mid < B) := ⟨f1.1, f1.2.1⟩
                  have hmb : (mid : Int) ≤ 65536 := by omega
                  obtain ⟨lft, hlft⟩ : ∃ x, x = mid - A := ⟨_, rfl⟩
                  obtain ⟨rgt, hrgt⟩ : ∃ x, x = B - mid := ⟨_, rfl⟩
                  obtain ⟨T, hT⟩ : ∃ T, T = L / 8 := ⟨_, rfl⟩
                  have hT2 : T = (B - A) / 8 := by rw [hT, unhide HLL]
                  have hq8 : (L : Int).tdiv 8 = (T : Int) := by rw [Int.tdiv_eq_ediv_of_nonneg (by omega)]; omega
                  have hlfi : (mid : Int) - (A : Int) = (lft : Int) := by omega
                  have hrgi : (B : Int) - (mid : Int) = (rgt : Int) := by omega
                  have hlfb : (lft : Int) ≤ 65536 := by omega
                  have hrgb : (rgt : Int) ≤ 65536 := by omega
                  have hTb : (T : Int) ≤ 65536 := by omega
                  obtain ⟨m1, hm1⟩ : ∃ m1, m1 = mid + 1 := ⟨_, rfl⟩
                  have HM1 : Hid ((mid : Int) + 1 = ((mid + 1 : Nat) : Int)) := by show _ = _; omega
                  have HMW : Hid (wrap64 ((mid : Int) + 1) = ((mid + 1 : Nat) : Int)) := by show _ = _; simp only [wrap64]; omega
                  clear hT f1 hcond HT hm1
                  by_cases hcl : lft < rgt
                  · have hcmp : (lft : Int) < (rgt : Int) := by omega
                    have HIHx := hide (fun w (hr : Rw w g t N d4) => unhide HIH (A) (mid) l1 d4 w (by have := unhide HMI; have := unhide HAB; omega) hr (unhide HZ4).symm (by have := unhide HMI; omega) (by have := unhide HMI; have := unhide HAB; omega) (by omega))
                    have HO5 : Hid (Sort.pdq ltB (Sort.pdq ltB d4 (A) (mid) l1 true true) (mid + 1) (B) l1 (decide (lft ≥ T)) ap = Sort.pdq ltB d a b limit true true) := by
                      show _ = _
                      have q := HTQ
                      rw [if_pos (by omega : mid - A < B - mid)] at q
                      rw [← hT2, ← hlft] at q
                      exact q
                    obtain ⟨d5, hd5⟩ : ∃ d5, d5 = Sort.pdq ltB d4 (A) (mid) l1 true true := ⟨_, rfl⟩
                    rw [← hd5] at HIHx HO5
                    have hnm : ((mid + 1 : Nat) : Int) ≤ 65536 := by have := unhide HMI; omega
                    have hnm2 : ((B : Nat) : Int) ≤ 65536 := by have := unhide HMI; omega
                    have HNA := hide hnm
                    have HNB := hide hnm2
                    have HAB5 : Hid (mid + 1 ≤ B ∧ B ≤ n ∧ B - (mid + 1) ≤ m) := by have := unhide HAB; have := unhide HMI; exact ⟨by omega, by omega, by omega⟩
                    clear HTQ hlft hrgt hT2 hd5 hnm hnm2 hcl
                    go_wp2_with (first
                      | (go_at_call 63; refine (unhide KP _ (unhide HS).rw').mono ?_; rintro e wq ⟨rfl, HQ⟩; replace HQ := hide ((unhide HS).then HQ); clear KP)
                      | fail)

                    refine (unhide HIHx _ (unhide HQ).rw').mono ?_
                    rintro e wq2 ⟨he, HR, hz5⟩
                    obtain rfl := he
                    replace HR := hide ((unhide HQ).then HR)
                    have HZ5 := hide hz5
                    clear hz5 HIHx
                    go_wp2
                    go_roundw
                    case rel => exact ⟨mid + 1, B, l1, (decide (lft ≥ T)), ap, d5, by first | rfl | go_num, by first | rfl | go_num, by first | rfl | go_num, by first | rfl | (congr 1) | simp, by first | rfl | simp, unhide HNA, unhide HNB, hl1b, HAB5, HZ5, HR, HO5⟩
                    case measure => have := unhide HMI; have := unhide HAB; simp [intOf]; omega
                  · have hcmp : ¬ (lft : Int) < (rgt : Int) := by omega
                    have HIHx := hide (fun w (hr : Rw w g t N d4) => unhide HIH (mid + 1) (B) l1 d4 w (by have := unhide HMI; have := unhide HAB; omega) hr (unhide HZ4).symm (by have := unhide HMI; omega) (by have := unhide HMI; have := unhide HAB; omega) (by omega))
                    have HO5 : Hid (Sort.pdq ltB (Sort.pdq ltB d4 (mid + 1) (B) l1 true true) (A) (mid) l1 (decide (rgt ≥ T)) ap = Sort.pdq ltB d a b limit true true) := by
                      show _ = _
                      have q := HTQ
                      rw [if_neg (by omega : ¬ mid - A < B - mid)] at q
                      rw [← hT2, ← hrgt] at q
                      exact q
                    obtain ⟨d5, hd5⟩ : ∃ d5, d5 = Sort.pdq ltB d4 (mid + 1) (B) l1 true true := ⟨_, rfl⟩
                    rw [← hd5] at HIHx HO5
                    have hnm : ((A : Nat) : Int) ≤ 65536 := by have := unhide HMI; omega
                    have hnm2 : ((mid : Nat) : Int) ≤ 65536 := by have := unhide HMI; omega
                    have HNA := hide hnm
                    have HNB := hide hnm2
                    have HAB5 : Hid (A ≤ mid ∧ mid ≤ n ∧ mid - (A) ≤ m) := by have := unhide HAB; have := unhide HMI; exact ⟨by omega, by omega, by omega⟩
                    clear HTQ hlft hrgt hT2 hd5 hnm hnm2 hcl
                    go_wp2_with (first
                      | (go_at_call 63; refine (unhide KP _ (unhide HS).rw').mono ?_; rintro e wq ⟨rfl, HQ⟩; replace HQ := hide ((unhide HS).then HQ); clear KP)
                      | fail)
                    first | rw [unhide HM1] | rw [unhide HMW] | skip
                    refine (unhide HIHx _ (unhide HQ).rw').mono ?_
                    rintro e wq2 ⟨he, HR, hz5⟩
                    obtain rfl := he
                    replace HR := hide ((unhide HQ).then HR)
                    have HZ5 := hide hz5
                    clear hz5 HIHx
                    go_wp2
                    go_roundw
                    case rel => exact ⟨A, mid, l1, (decide (rgt ≥ T)), ap, d5, by first | rfl | go_num, by first | rfl | go_num, by first | rfl | go_num, by first | rfl | (congr 1) | simp, by first | rfl | simp, unhide HNA, unhide HNB, hl1b, HAB5, HZ5, HR, HO5⟩
                    case measure => have := unhide HMI; have := unhide HAB; simp [intOf]; omega

          | true =>
            cases wp with
            | false =>
              obtain ⟨d1, hd1'⟩ : ∃ d1, d1 = dk := ⟨_, rfl⟩
              obtain ⟨l1, hl1'⟩ : ∃ l1, l1 = lim := ⟨_, rfl⟩
              have hl1b : (l1 : Int) ≤ 64 := by omega
              have hd1 : (if (!true) = true then Sort.breakPatterns dk A B else dk) = d1 := by rw [hd1']; rfl
              have hl1 : (if (!true) = true then lim - 1 else lim) = l1 := by rw [hl1']; rfl
              have HZ1 : Hid (d1.size = n) := by rw [hd1']; exact HZ
              rw [← hd1'] at HS
              clear hd1'
              go_wp2_with fail
              rw [← hl1']
              clear hl1'
              have hcp := Sort.choosePivot_holds ltB d1 A B (by omega)
              have KV := hide (kPiv g c A B n N t d1 _ (unhide HS).rw' (unhide HZ1).symm (by omega) (unhide HAB).2.1 (by omega))
              generalize hc : Sort.choosePivot ltB d1 A B = cp at *
              obtain ⟨p, hh⟩ := cp
              dsimp only at KV hcp
              cases hh with
              | unknown =>
                rw [show hintN Sort.Hint.unknown = 0 from rfl] at KV
                refine (unhide KV).mono ?_
                rintro e wv ⟨he, HV⟩
                obtain rfl := he
                replace HV := hide ((unhide HS).then HV)
                clear HS KV
                have HS := HV
                clear HV
                obtain ⟨pv, hpv⟩ : ∃ pv, pv = p := ⟨_, rfl⟩
                have HPB : Hid (A ≤ pv ∧ pv < B) := by rw [hpv]; exact hcp
                have hpb : (p : Int) ≤ 65536 := by omega
                obtain ⟨d2, hd2⟩ : ∃ d2, d2 = d1 := ⟨_, rfl⟩
                have HZ2 : Hid (d2.size = n) := by rw [hd2]; exact HZ1
                have h3 : (if Sort.Hint.unknown = .decreasing then Sort.reverseRange d1 A B else d1) = d2 := by rw [if_neg (by decide), hd2]
                have h4 : (if Sort.Hint.unknown = .decreasing then (B - 1) - (p - A) else p) = pv := by rw [if_neg (by decide), hpv]
                rw [← hd2] at HS
                rw [← hpv]
                clear hpv hd2
                have h5 : (if (true && false && decide ((if Sort.Hint.unknown = .decreasing then Sort.Hint.increasing else Sort.Hint.unknown) = .increasing)) = true then Sort.partialInsertionSort ltB d2 A B else (d2, false)) = (d2, false) := by simp
                have HT : Hid (pdT d2 A B pv l1 true false = Sort.pdq ltB d a b limit true true) := by
                  show _ = _
                  rw [← unhide HO, pdq_round dk A B lim true false (by omega) hl0 d1 d2 l1 p pv _ (d2, false) hd1 hl1 hc h3 h4 h5 (unhide HPB).1 (unhide HPB).2 (by dsimp only; rw [unhide HZ2]; exact (unhide HAB).2.1)]
                  rfl
                obtain ⟨d3, hd3⟩ : ∃ d3, d3 = d2 := ⟨_, rfl⟩
                rw [← hd3] at HT HZ2 HS
                have HZ3 := HZ2
                clear hd3 h3 h4 h5 hc hd1 hl1 hcp HZ2 HO hl0 h12
                go_wp2
                as_aux_lemma =>
                  have hpvb : (pv : Int) ≤ 65536 := by have := unhide HPB; omega
                  have hzp : pv < d3.size := by rw [unhide HZ3]; have := unhide HPB; have := unhide HAB; omega
                  by_cases hA0 : A > 0
                  · have hA0i : (A : Int) > 0 := by omega
                    have hza : A - 1 < d3.size := by rw [unhide HZ3]; have := unhide HPB; have := unhide HAB; omega
                    obtain ⟨c1, f1⟩ := (unhide HS).rw'.cell (A - 1) hza
                    obtain ⟨c2, f2⟩ := (unhide HS).rw'.cell pv hzp
                    have ix1 := unhide HI (A - 1) (by rw [unhide HZ3] at hza; exact hza)
                    have ix2 := unhide HI pv (by rw [unhide HZ3] at hzp; exact hzp)
                    have ix3 := ix1
                    rw [show ((A - 1 : Nat) : Int) = (A : Int) - 1 by omega] at ix3
                    obtain ⟨y1, hy1⟩ : ∃ y, y = d3[A - 1]! := ⟨_, rfl⟩
                    obtain ⟨y2, hy2⟩ : ∃ y, y = d3[pv]! := ⟨_, rfl⟩
                    rw [← hy1] at c1
                    rw [← hy2] at c2
                    have HY1 := hide hy1.symm
                    have HY2 := hide hy2.symm
                    clear hy1 hy2 hza hzp
                    cases hls : ltB y1 y2 with
                    | false =>
                      have HLS := hide (fun w => unhide HL y1 y2 w)
                      rw [hls] at HLS
                      have hcond : (decide (A > 0) && !ltB d3[A - 1]! d3[pv]!) = true := by rw [unhide HY1, unhide HY2, hls, decide_eq_true hA0]; rfl
                      clear hls
                      go_quiet (first | exact Calls.quiet_of_same (unhide HLS _) | exact quiet_any (unhide HLS _) | fail)
                      have HS9 := hide (show So u _ g t N d3 from (unhide HS).drewN nq)
                      clear HS c1 c2 f1 f2 ix1 ix2 ix3 HLS HY1 HY2
                      have HS := HS9
                      clear HS9
                      have HTQ := unhide HT
                      unfold pdT at HTQ
                      rw [if_pos hcond] at HTQ
                      have KE := hide (fun w (hr : Rw w g t N d3) => kPeq g c A B pv n N t d3 w hr (unhide HZ3).symm (unhide HPB).1 (unhide HPB).2 (unhide HAB).2.1 (by omega))
                      have f1 := peqS_facts A B pv d3 (by omega)
                      generalize Sort.partitionEqual ltB d3 A B pv = r at *
                      obtain ⟨mid, d4⟩ := r
                      dsimp only at KE f1 HTQ
                      have HO4 := hide HTQ
                      have HZ4 : Hid (d4.size = n) := f1.2.2.trans (unhide HZ3)
                      have HMI : Hid (A < mid ∧ mid ≤ B) := ⟨f1.1, f1.2.1⟩
                      have hmb : (mid : Int) ≤ 65536 := by omega
                      have HAB4 : Hid (mid ≤ B ∧ B ≤ n ∧ B - mid ≤ m) := by have := unhide HAB; exact ⟨by omega, by omega, by omega⟩
                      clear HTQ f1 hcond HT
                      go_wp2_with (first
                        | (go_at_call 62; refine (unhide KE _ (unhide HS).rw').mono ?_; rintro e wq ⟨rfl, HQ⟩; replace HQ := hide ((unhide HS).then HQ); clear KE)
                        | fail)
                      go_roundw
                      case rel => exact ⟨mid, B, l1, true, false, d4, by first | rfl | go_num, by first | rfl | go_num, by first | rfl | go_num, by first | rfl | (congr 1) | simp, by first | rfl | simp, hmb, hB, hl1b, HAB4, HZ4, HQ, HO4⟩
                      case measure => have := unhide HMI; simp [intOf]; omega
                    | true =>
                      have HLS := hide (fun w => unhide HL y1 y2 w)
                      rw [hls] at HLS
                      have hcond : ¬ (decide (A > 0) && !ltB d3[A - 1]! d3[pv]!) = true := by rw [unhide HY1, unhide HY2, hls]; simp
                      clear hls
                      go_quiet (first | exact Calls.quiet_of_same (unhide HLS _) | exact quiet_any (unhide HLS _) | fail)
                      have HS9 := hide (show So u _ g t N d3 from (unhide HS).drewN nq)
                      clear HS c1 c2 f1 f2 ix1 ix2 ix3 HLS HY1 HY2
                      have HS := HS9
                      clear HS9
                      have HTQ := unhide HT
                      unfold pdT at HTQ
                      rw [if_neg hcond] at HTQ
                      have KP := hide (fun w (hr : Rw w g t N d3) => kPart g c A B pv n N t d3 w hr (unhide HZ3).symm (unhide HPB).1 (unhide HPB).2 (unhide HAB).2.1 (by omega))
                      have f1 := partS_facts A B pv d3 (unhide HPB).1 (unhide HPB).2 (by rw [unhide HZ3]; exact (unhide HAB).2.1)
                      generalize Sort.partition ltB d3 A B pv = r at *
                      obtain ⟨mid, ap, d4⟩ := r
                      dsimp only at KP f1 HTQ
                      have HZ4 : Hid (d4.size = n) := f1.2.2.trans (unhide HZ3)
                      have HMI : Hid (A ≤ mid ∧ mid < B) := ⟨f1.1, f1.2.1⟩
                      have hmb : (mid : Int) ≤ 65536 := by omega
                      obtain ⟨lft, hlft⟩ : ∃ x, x = mid - A := ⟨_, rfl⟩
                      obtain ⟨rgt, hrgt⟩ : ∃ x, x = B - mid := ⟨_, rfl⟩
                      obtain ⟨T, hT⟩ : ∃ T, T = L / 8 := ⟨_, rfl⟩
                      have hT2 : T = (B - A) / 8 := by rw [hT, unhide HLL]
                      have hq8 : (L : Int).tdiv 8 = (T : Int) := by rw [Int.tdiv_eq_ediv_of_nonneg (by omega)]; omega
                      have hlfi : (mid : Int) - (A : Int) = (lft : Int) := by omega
                      have hrgi : (B : Int) - (mid : Int) = (rgt : Int) := by omega
                      have hlfb : (lft : Int) ≤ 65536 := by omega
                      have hrgb : (rgt : Int) ≤ 65536 := by omega
                      have hTb : (T : Int) ≤ 65536 := by omega
                      obtain ⟨m1, hm1⟩ : ∃ m1, m1 = mid + 1 := ⟨_, rfl⟩
                      have HM1 : Hid ((mid : Int) + 1 = ((mid + 1 : Nat) : Int)) := by show _ = _; omega
                      have HMW : Hid (wrap64 ((mid : Int) + 1) = ((mid + 1 : Nat) : Int)) := by show _ = _; simp only [wrap64]; omega
                      clear hT f1 hcond HT hm1
                      by_cases hcl : lft < rgt
                      · have hcmp : (lft : Int) < (rgt : Int) := by omega
                        have HIHx := hide (fun w (hr : Rw w g t N d4) => unhide HIH (A) (mid) l1 d4 w (by have := unhide HMI; have := unhide HAB; omega) hr (unhide HZ4).symm (by have := unhide HMI; omega) (by have := unhide HMI; have := unhide HAB; omega) (by omega))
                        have HO5 : Hid (Sort.pdq ltB (Sort.pdq ltB d4 (A) (mid) l1 true true) (mid + 1) (B) l1 (decide (lft ≥ T)) ap = Sort.pdq ltB d a b limit true true) := by
                          show _ = _
                          have q := HTQ
                          rw [if_pos (by omega : mid - A < B - mid)] at q
                          rw [← hT2, ← hlft] at q
                          exact q
                        obtain ⟨d5, hd5⟩ : ∃ d5, d5 = Sort.pdq ltB d4 (A) (mid) l1 true true := ⟨_, rfl⟩
                        rw [← hd5] at HIHx HO5
                        have hnm : ((mid + 1 : Nat) : Int) ≤ 65536 := by have := unhide HMI; omega
                        have hnm2 : ((B : Nat) : Int) ≤ 65536 := by have := unhide HMI; omega
                        have HNA := hide hnm
                        have HNB := hide hnm2
                        have HAB5 : Hid (mid + 1 ≤ B ∧ B ≤ n ∧ B - (mid + 1) ≤ m) := by have := unhide HAB; have := unhide HMI; exact ⟨by omega, by omega, by omega⟩
                        clear HTQ hlft hrgt hT2 hd5 hnm hnm2 hcl
                        go_wp2_with (first
                          | (go_at_call 63; refine (unhide KP _ (unhide HS).rw').mono ?_; rintro e wq ⟨rfl, HQ⟩; replace HQ := hide ((unhide HS).then HQ); clear KP)
                          | fail)

                        refine (unhide HIHx _ (unhide HQ).rw').mono ?_
                        rintro e wq2 ⟨he, HR, hz5⟩
                        obtain rfl := he
                        replace HR := hide ((unhide HQ).then HR)
                        have HZ5 := hide hz5
                        clear hz5 HIHx
                        go_wp2
                        go_roundw
                        case rel => exact ⟨mid + 1, B, l1, (decide (lft ≥ T)), ap, d5, by first | rfl | go_num, by first | rfl | go_num, by first | rfl | go_num, by first | rfl | (congr 1) | simp, by first | rfl | simp, unhide HNA, unhide HNB, hl1b, HAB5, HZ5, HR, HO5⟩
                        case measure => have := unhide HMI; have := unhide HAB; simp [intOf]; omega
                      · have hcmp : ¬ (lft : Int) < (rgt : Int) := by omega
                        have HIHx := hide (fun w (hr : Rw w g t N d4) => unhide HIH (mid + 1) (B) l1 d4 w (by have := unhide HMI; have := unhide HAB; omega) hr (unhide HZ4).symm (by have := unhide HMI; omega) (by have := unhide HMI; have := unhide HAB; omega) (by omega))
                        have HO5 : Hid (Sort.pdq ltB (Sort.pdq ltB d4 (mid + 1) (B) l1 true true) (A) (mid) l1 (decide (rgt ≥ T)) ap = Sort.pdq ltB d a b limit true true) := by
                          show _ = _
                          have q := HTQ
                          rw [if_neg (by omega : ¬ mid - A < B - mid)] at q
                          rw [← hT2, ← hrgt] at q
                          exact q
                        obtain ⟨d5, hd5⟩ : ∃ d5, d5 = Sort.pdq ltB d4 (mid + 1) (B) l1 true true := ⟨_, rfl⟩
                        rw [← hd5] at HIHx HO5
                        have hnm : ((A : Nat) : Int) ≤ 65536 := by have := unhide HMI; omega
                        have hnm2 : ((mid : Nat) : Int) ≤ 65536 := by have := unhide HMI; omega
                        have HNA := hide hnm
                        have HNB := hide hnm2
                        have HAB5 : Hid (A ≤ mid ∧ mid ≤ n ∧ mid - (A) ≤ m) := by have := unhide HAB; have := unhide HMI; exact ⟨by omega, by omega, by omega⟩
                        clear HTQ hlft hrgt hT2 hd5 hnm hnm2 hcl
                        go_wp2_with (first
                          | (go_at_call 63; refine (unhide KP _ (unhide HS).rw').mono ?_; rintro e wq ⟨rfl, HQ⟩; replace HQ := hide ((unhide HS).then HQ); clear KP)
                          | fail)
                        first | rw [unhide HM1] | rw [unhide HMW] | skip
                        refine (unhide HIHx _ (unhide HQ).rw').mono ?_
                        rintro e wq2 ⟨he, HR, hz5⟩
                        obtain rfl := he
                        replace HR := hide ((unhide HQ).then HR)
                        have HZ5 := hide hz5
                        clear hz5 HIHx
                        go_wp2
                        go_roundw
                        case rel => exact ⟨A, mid, l1, (decide (rgt ≥ T)), ap, d5, by first | rfl | go_num, by first | rfl | go_num, by first | rfl | go_num, by first | rfl | (congr 1) | simp, by first | rfl | simp, unhide HNA, unhide HNB, hl1b, HAB5, HZ5, HR, HO5⟩
                        case measure => have := unhide HMI; have := unhide HAB; simp [intOf]; omega
                  · have hA0i : ¬ (A : Int) > 0 := by omega
                    have hA0d : decide (0 < A) = false := decide_eq_false hA0
                    have hcond : ¬ (decide (A > 0) && !ltB d3[A - 1]! d3[pv]!) = true := by rw [decide_eq_false hA0]; simp
                    go_quiet (first | fail)
                    have HS9 := hide (show So u _ g t N d3 from (unhide HS).drewN nq)
                    clear HS hzp
                    have HS := HS9
                    clear HS9
                    have HTQ := unhide HT
                    unfold pdT at HTQ
                    rw [if_neg hcond] at HTQ
                    have KP := hide (fun w (hr : Rw w g t N d3) => kPart g c A B pv n N t d3 w hr (unhide HZ3).symm (unhide HPB).1 (unhide HPB).2 (unhide HAB).2.1 (by omega))
                    have f1 := partS_facts A B pv d3 (unhide HPB).1 (unhide HPB).2 (by rw [unhide HZ3]; exact (unhide HAB).2.1)
                    generalize Sort.partition ltB d3 A B pv = r at *
                    obtain ⟨mid, ap, d4⟩ := r
                    dsimp only at KP f1 HTQ
                    have HZ4 : Hid (d4.size = n) := f1.2.2.trans (unhide HZ3)
                    have HMI : Hid (A ≤ mid ∧ mid < B) := ⟨f1.1, f1.2.1⟩
                    have hmb : (mid : Int) ≤ 65536 := by omega
                    obtain ⟨lft, hlft⟩ : ∃ x, x = mid - A := ⟨_, rfl⟩
                    obtain ⟨rgt, hrgt⟩ : ∃ x, x = B - mid := ⟨_, rfl⟩
                    obtain ⟨T, hT⟩ : ∃ T, T = L / 8 := ⟨_, rfl⟩
                    have hT2 : T = (B - A) / 8 := by rw [hT, unhide HLL]
                    have hq8 : (L : Int).tdiv 8 = (T : Int) := by rw [Int.tdiv_eq_ediv_of_nonneg (by omega)]; omega
                    have hlfi : (mid : Int) - (A : Int) = (lft : Int) := by omega
                    have hrgi : (B : Int) - (mid : Int) = (rgt : Int) := by omega
                    have hlfb : (lft : Int) ≤ 65536 := by omega
                    have hrgb : (rgt : Int) ≤ 65536 := by omega
                    have hTb : (T : Int) ≤ 65536 := by omega
                    obtain ⟨m1, hm1⟩ : ∃ m1, m1 = mid + 1 := ⟨_, rfl⟩
                    have HM1 : Hid ((mid : Int) + 1 = ((mid + 1 : Nat) : Int)) := by show _ = _; omega
                    have HMW : Hid (wrap64 ((mid : Int) + 1) = ((mid + 1 : Nat) : Int)) := by show _ = _; simp only [wrap64]; omega
                    clear hT f1 hcond HT hm1
                    by_cases hcl : lft < rgt
                    · have hcmp : (lft : Int) < (rgt : Int) := by omega
                      have HIHx := hide (fun w (hr : Rw w g t N d4) => unhide HIH (A) (mid) l1 d4 w (by have := unhide HMI; have := unhide HAB; omega) hr (unhide HZ4).symm (by have := unhide HMI; omega) (by have := unhide HMI; have := unhide HAB; omega) (by omega))
                      have HO5 : Hid (Sort.pdq ltB (Sort.pdq ltB d4 (A) (mid) l1 true true) (mid + 1) (B) l1 (decide (lft ≥ T)) ap = Sort.pdq ltB d a b limit true true) := by
                        show _ = _
                        have q := HTQ
                        rw [if_pos (by omega : mid - A < B - mid)] at q
                        rw [← hT2, ← hlft] at q
                        exact q
                      obtain ⟨d5, hd5⟩ : ∃ d5, d5 = Sort.pdq ltB d4 (A) (mid) l1 true true := ⟨_, rfl⟩
                      rw [← hd5] at HIHx HO5
                      have hnm : ((mid + 1 : Nat) : Int) ≤ 65536 := by have := unhide HMI; omega
                      have hnm2 : ((B : Nat) : Int) ≤ 65536 := by have := unhide HMI; omega
                      have HNA := hide hnm
                      have HNB := hide hnm2
                      have HAB5 : Hid (mid + 1 ≤ B ∧ B ≤ n ∧ B - (mid + 1) ≤ m) := by have := unhide HAB; have := unhide HMI; exact ⟨by omega, by omega, by omega⟩
                      clear HTQ hlft hrgt hT2 hd5 hnm hnm2 hcl
                      go_wp2_with (first
                        | (go_at_call 63; refine (unhide KP _ (unhide HS).rw').mono ?_; rintro e wq ⟨rfl, HQ⟩; replace HQ := hide ((unhide HS).then HQ); clear KP)
                        | fail)

                      refine (unhide HIHx _ (unhide HQ).rw').mono ?_
                      rintro e wq2 ⟨he, HR, hz5⟩
                      obtain rfl := he
                      replace HR := hide ((unhide HQ).then HR)
                      have HZ5 := hide hz5
                      clear hz5 HIHx
                      go_wp2
                      go_roundw
                      case rel => exact ⟨mid + 1, B, l1, (decide (lft ≥ T)), ap, d5, by first | rfl | go_num, by first | rfl | go_num, by first | rfl | go_num, by first | rfl | (congr 1) | simp, by first | rfl | simp, unhide HNA, unhide HNB, hl1b, HAB5, HZ5, HR, HO5⟩
                      case measure => have := unhide HMI; have := unhide HAB; simp [intOf]; omega
                    · have hcmp : ¬ (lft : Int) < (rgt : Int) := by omega
                      have HIHx := hide (fun w (hr : Rw w g t N d4) => unhide HIH (mid + 1) (B) l1 d4 w (by have := unhide HMI; have := unhide HAB; omega) hr (unhide HZ4).symm (by have := unhide HMI; omega) (by have := unhide HMI; have := unhide HAB; omega) (by omega))
                      have HO5 : Hid (Sort.pdq ltB (Sort.pdq ltB d4 (mid + 1) (B) l1 true true) (A) (mid) l1 (decide (rgt ≥ T)) ap = Sort.pdq ltB d a b limit true true) := by
                        show _ = _
                        have q := HTQ
                        rw [if_neg (by omega : ¬ mid - A < B - mid)] at q
                        rw [← hT2, ← hrgt] at q
                        exact q
                      obtain ⟨d5, hd5⟩ : ∃ d5, d5 = Sort.pdq ltB d4 (mid + 1) (B) l1 true true := ⟨_, rfl⟩
                      rw [← hd5] at HIHx HO5
                      have hnm : ((A : Nat) : Int) ≤ 65536 := by have := unhide HMI; omega
                      have hnm2 : ((mid : Nat) : Int) ≤ 65536 := by have := unhide HMI; omega
                      have HNA := hide hnm
                      have HNB := hide hnm2
                      have HAB5 : Hid (A ≤ mid ∧ mid ≤ n ∧ mid - (A) ≤ m) := by have := unhide HAB; have := unhide HMI; exact ⟨by omega, by omega, by omega⟩
                      clear HTQ hlft hrgt hT2 hd5 hnm hnm2 hcl
                      go_wp2_with (first
                        | (go_at_call 63; refine (unhide KP _ (unhide HS).rw').mono ?_; rintro e wq ⟨rfl, HQ⟩; replace HQ := hide ((unhide HS).then HQ); clear KP)
                        | fail)
                      first | rw [unhide HM1] | rw [unhide HMW] | skip
                      refine (unhide HIHx _ (unhide HQ).rw').mono ?_
                      rintro e wq2 ⟨he, HR, hz5⟩
                      obtain rfl := he
                      replace HR := hide ((unhide HQ).then HR)
                      have HZ5 := hide hz5
                      clear hz5 HIHx
                      go_wp2
                      go_roundw
                      case rel => exact ⟨A, mid, l1, (decide (rgt ≥ T)), ap, d5, by first | rfl | go_num, by first | rfl | go_num, by first | rfl | go_num, by first | rfl | (congr 1) | simp, by first | rfl | simp, unhide HNA, unhide HNB, hl1b, HAB5, HZ5, HR, HO5⟩
                      case measure => have := unhide HMI; have := unhide HAB; simp [intOf]; omega
              | increasing =>
                rw [show hintN Sort.Hint.increasing = 1 from rfl] at KV
                refine (unhide KV).mono ?_
                rintro e wv ⟨he, HV⟩
                obtain rfl := he
                replace HV := hide ((unhide HS).then HV)
                clear HS KV
                have HS := HV
                clear HV
                obtain ⟨pv, hpv⟩ : ∃ pv, pv = p := ⟨_, rfl⟩
                have HPB : Hid (A ≤ pv ∧ pv < B) := by rw [hpv]; exact hcp
                have hpb : (p : Int) ≤ 65536 := by omega
                obtain ⟨d2, hd2⟩ : ∃ d2, d2 = d1 := ⟨_, rfl⟩
                have HZ2 : Hid (d2.size = n) := by rw [hd2]; exact HZ1
                have h3 : (if Sort.Hint.increasing = .decreasing then Sort.reverseRange d1 A B else d1) = d2 := by rw [if_neg (by decide), hd2]
                have h4 : (if Sort.Hint.increasing = .decreasing then (B - 1) - (p - A) else p) = pv := by rw [if_neg (by decide), hpv]
                rw [← hd2] at HS
                rw [← hpv]
                clear hpv hd2
                have h5 : (if (true && false && decide ((if Sort.Hint.increasing = .decreasing then Sort.Hint.increasing else Sort.Hint.increasing) = .increasing)) = true then Sort.partialInsertionSort ltB d2 A B else (d2, false)) = (d2, false) := by simp
                have HT : Hid (pdT d2 A B pv l1 true false = Sort.pdq ltB d a b limit true true) := by
                  show _ = _
                  rw [← unhide HO, pdq_round dk A B lim true false (by omega) hl0 d1 d2 l1 p pv _ (d2, false) hd1 hl1 hc h3 h4 h5 (unhide HPB).1 (unhide HPB).2 (by dsimp only; rw [unhide HZ2]; exact (unhide HAB).2.1)]
                  rfl
                obtain ⟨d3, hd3⟩ : ∃ d3, d3 = d2 := ⟨_, rfl⟩
                rw [← hd3] at HT HZ2 HS
                have HZ3 := HZ2
                clear hd3 h3 h4 h5 hc hd1 hl1 hcp HZ2 HO hl0 h12
                go_wp2
                as_aux_lemma =>
                  have hpvb : (pv : Int) ≤ 65536 := by have := unhide HPB; omega
                  have hzp : pv < d3.size := by rw [unhide HZ3]; have := unhide HPB; have := unhide HAB; omega
                  by_cases hA0 : A > 0
                  · have hA0i : (A : Int) > 0 := by omega
                    have hza : A - 1 < d3.size := by rw [unhide HZ3]; have := unhide HPB; have := unhide HAB; omega
                    obtain ⟨c1, f1⟩ := (unhide HS).rw'.cell (A - 1) hza
                    obtain ⟨c2, f2⟩ := (unhide HS).rw'.cell pv hzp
                    have ix1 := unhide HI (A - 1) (by rw [unhide HZ3] at hza; exact hza)
                    have ix2 := unhide HI pv (by rw [unhide HZ3] at hzp; exact hzp)
                    have ix3 := ix1
                    rw [show ((A - 1 : Nat) : Int) = (A : Int) - 1 by omega] at ix3
                    obtain ⟨y1, hy1⟩ : ∃ y, y = d3[A - 1]! := ⟨_, rfl⟩
                    obtain ⟨y2, hy2⟩ : ∃ y, y = d3[pv]! := ⟨_, rfl⟩
                    rw [← hy1] at c1
                    rw [← hy2] at c2
                    have HY1 := hide hy1.symm
                    have HY2 := hide hy2.symm
                    clear hy1 hy2 hza hzp
                    cases hls : ltB y1 y2 with
                    | false =>
                      have HLS := hide (fun w => unhide HL y1 y2 w)
                      rw [hls] at HLS
                      have hcond : (decide (A > 0) && !ltB d3[A - 1]! d3[pv]!) = true := by rw [unhide HY1, unhide HY2, hls, decide_eq_true hA0]; rfl
                      clear hls
                      go_quiet (first | exact Calls.quiet_of_same (unhide HLS _) | exact quiet_any (unhide HLS _) | fail)
                      have HS9 := hide (show So u _ g t N d3 from (unhide HS).drewN nq)
                      clear HS c1 c2 f1 f2 ix1 ix2 ix3 HLS HY1 HY2
                      have HS := HS9
                      clear HS9
                      have HTQ := unhide HT
                      unfold pdT at HTQ
                      rw [if_pos hcond] at HTQ
                      have KE := hide (fun w (hr : Rw w g t N d3) => kPeq g c A B pv n N t d3 w hr (unhide HZ3).symm (unhide HPB).1 (unhide HPB).2 (unhide HAB).2.1 (by omega))
                      have f1 := peqS_facts A B pv d3 (by omega)
                      generalize Sort.partitionEqual ltB d3 A B pv = r at *
                      obtain ⟨mid, d4⟩ := r
                      dsimp only at KE f1 HTQ
                      have HO4 := hide HTQ
                      have HZ4 : Hid (d4.size = n) := f1.2.2.trans (unhide HZ3)
                      have HMI : Hid (A < mid ∧ mid ≤ B) := ⟨f1.1, f1.2.1⟩
                      have hmb : (mid : Int) ≤ 65536 := by omega
                      have HAB4 : Hid (mid ≤ B ∧ B ≤ n ∧ B - mid ≤ m) := by have := unhide HAB; exact ⟨by omega, by omega, by omega⟩
                      clear HTQ f1 hcond HT
                      go_wp2_with (first
                        | (go_at_call 62; refine (unhide KE _ (unhide HS).rw').mono ?_; rintro e wq ⟨rfl, HQ⟩; replace HQ := hide ((unhide HS).then HQ); clear KE)
                        | fail)
                      go_roundw
                      case rel => exact ⟨mid, B, l1, true, false, d4, by first | rfl | go_num, by first | rfl | go_num, by first | rfl | go_num, by first | rfl | (congr 1) | simp, by first | rfl | simp, hmb, hB, hl1b, HAB4, HZ4, HQ, HO4⟩
                      case measure => have := unhide HMI; simp [intOf]; omega
                    | true =>
                      have HLS := hide (fun w => unhide HL y1 y2 w)
                      rw [hls] at HLS
                      have hcond : ¬ (decide (A > 0) && !ltB d3[A - 1]! d3[pv]!) = true := by rw [unhide HY1, unhide HY2, hls]; simp
                      clear hls
                      go_quiet (first | exact Calls.quiet_of_same (unhide HLS _) | exact quiet_any (unhide HLS _) | fail)
                      have HS9 := hide (show So u _ g t N d3 from (unhide HS).drewN nq)
                      clear HS c1 c2 f1 f2 ix1 ix2 ix3 HLS HY1 HY2
                      have HS := HS9
                      clear HS9
                      have HTQ := unhide HT
                      unfold pdT at HTQ
                      rw [if_neg hcond] at HTQ
                      have KP := hide (fun w (hr : Rw w g t N d3) => kPart g c A B pv n N t d3 w hr (unhide HZ3).symm (unhide HPB).1 (unhide HPB).2 (unhide HAB).2.1 (by omega))
                      have f1 := partS_facts A B pv d3 (unhide HPB).1 (unhide HPB).2 (by rw [unhide HZ3]; exact (unhide HAB).2.1)
                      generalize Sort.partition ltB d3 A B pv = r at *
                      obtain ⟨mid, ap, d4⟩ := r
                      dsimp only at KP f1 HTQ
                      have HZ4 : Hid (d4.size = n) := f1.2.2.trans (unhide HZ3)
                      have HMI : Hid (A ≤ mid ∧ mid < B) := ⟨f1.1, f1.2.1⟩
                      have hmb : (mid : Int) ≤ 65536 := by omega
                      obtain ⟨lft, hlft⟩ : ∃ x, x = mid - A := ⟨_, rfl⟩
                      obtain ⟨rgt, hrgt⟩ : ∃ x, x = B - mid := ⟨_, rfl⟩
                      obtain ⟨T, hT⟩ : ∃ T, T = L / 8 := ⟨_, rfl⟩
                      have hT2 : T = (B - A) / 8 := by rw [hT, unhide HLL]
                      have hq8 : (L : Int).tdiv 8 = (T : Int) := by rw [Int.tdiv_eq_ediv_of_nonneg (by omega)]; omega
                      have hlfi : (mid : Int) - (A : Int) = (lft : Int) := by omega
                      have hrgi : (B : Int) - (mid : Int) = (rgt : Int) := by omega
                      have hlfb : (lft : Int) ≤ 65536 := by omega
                      have hrgb : (rgt : Int) ≤ 65536 := by omega
                      have hTb : (T : Int) ≤ 65536 := by omega
                      obtain ⟨m1, hm1⟩ : ∃ m1, m1 = mid + 1 := ⟨_, rfl⟩
                      have HM1 : Hid ((mid : Int) + 1 = ((mid + 1 : Nat) : Int)) := by show _ = _; omega
                      have HMW : Hid (wrap64 ((mid : Int) + 1) = ((mid + 1 : Nat) : Int)) := by show _ = _; simp only [wrap64]; omega
                      clear hT f1 hcond HT hm1
                      by_cases hcl : lft < rgt
                      · have hcmp : (lft : Int) < (rgt : Int) := by omega
                        have HIHx := hide (fun w (hr : Rw w g t N d4) => unhide HIH (A) (mid) l1 d4 w (by have := unhide HMI; have := unhide HAB; omega) hr (unhide HZ4).symm (by have := unhide HMI; omega) (by have := unhide HMI; have := unhide HAB; omega) (by omega))
                        have HO5 : Hid (Sort.pdq ltB (Sort.pdq ltB d4 (A) (mid) l1 true true) (mid + 1) (B) l1 (decide (lft ≥ T)) ap = Sort.pdq ltB d a b limit true true) := by
                          show _ = _
                          have q := HTQ
                          rw [if_pos (by omega : mid - A < B - mid)] at q
                          rw [← hT2, ← hlft] at q
                          exact q
                        obtain ⟨d5, hd5⟩ : ∃ d5, d5 = Sort.pdq ltB d4 (A) (mid) l1 true true := ⟨_, rfl⟩
                        rw [← hd5] at HIHx HO5
                        have hnm : ((mid + 1 : Nat) : Int) ≤ 65536 := by have := unhide HMI; omega
                        have hnm2 : ((B : Nat) : Int) ≤ 65536 := by have := unhide HMI; omega
                        have HNA := hide hnm
                        have HNB := hide hnm2
                        have HAB5 : Hid (mid + 1 ≤ B ∧ B ≤ n ∧ B - (mid + 1) ≤ m) := by have := unhide HAB; have := unhide HMI; exact ⟨by omega, by omega, by omega⟩
                        clear HTQ hlft hrgt hT2 hd5 hnm hnm2 hcl
                        go_wp2_with (first
                          | (go_at_call 63; refine (unhide KP _ (unhide HS).rw').mono ?_; rintro e wq ⟨rfl, HQ⟩; replace HQ := hide ((unhide HS).then HQ); clear KP)
                          | fail)

                        refine (unhide HIHx _ (unhide HQ).rw').mono ?_
                        rintro e wq2 ⟨he, HR, hz5⟩
                        obtain rfl := he
                        replace HR := hide ((unhide HQ).then HR)
                        have HZ5 := hide hz5
                        clear hz5 HIHx
                        go_wp2
                        go_roundw
                        case rel => exact ⟨mid + 1, B, l1, (decide (lft ≥ T)), ap, d5, by first | rfl | go_num, by first | rfl | go_num, by first | rfl | go_num, by first | rfl | (congr 1) | simp, by first | rfl | simp, unhide HNA, unhide HNB, hl1b, HAB5, HZ5, HR, HO5⟩
                        case measure => have := unhide HMI; have := unhide HAB; simp [intOf]; omega
                      · have hcmp : ¬ (lft : Int) < (rgt : Int) := by omega
                        have HIHx := hide (fun w (hr : Rw w g t N d4) => unhide HIH (mid + 1) (B) l1 d4 w (by have := unhide HMI; have := unhide HAB; omega) hr (unhide HZ4).symm (by have := unhide HMI; omega) (by have := unhide HMI; have := unhide HAB; omega) (by omega))
                        have HO5 : Hid (Sort.pdq ltB (Sort.pdq ltB d4 (mid + 1) (B) l1 true true) (A) (mid) l1 (decide (rgt ≥ T)) ap = Sort.pdq ltB d a b limit true true) := by
                          show _ = _
                          have q := HTQ
                          rw [if_neg (by omega : ¬ mid - A < B - mid)] at q
                          rw [← hT2, ← hrgt] at q
                          exact q
                        obtain ⟨d5, hd5⟩ : ∃ d5, d5 = Sort.pdq ltB d4 (mid + 1) (B) l1 true true := ⟨_, rfl⟩
                        rw [← hd5] at HIHx HO5
                        have hnm : ((A : Nat) : Int) ≤ 65536 := by have := unhide HMI; omega
                        have hnm2 : ((mid : Nat) : Int) ≤ 65536 := by have := unhide HMI; omega
                        have HNA := hide hnm
                        have HNB := hide hnm2
                        have HAB5 : Hid (A ≤ mid ∧ mid ≤ n ∧ mid - (A) ≤ m) := by have := unhide HAB; have := unhide HMI; exact ⟨by omega, by omega, by omega⟩
                        clear HTQ hlft hrgt hT2 hd5 hnm hnm2 hcl
                        go_wp2_with (first
                          | (go_at_call 63; refine (unhide KP _ (unhide HS).rw').mono ?_; rintro e wq ⟨rfl, HQ⟩; replace HQ := hide ((unhide HS).then HQ); clear KP)
                          | fail)
                        first | rw [unhide HM1] | rw [unhide HMW] | skip
                        refine (unhide HIHx _ (unhide HQ).rw').mono ?_
                        rintro e wq2 ⟨he, HR, hz5⟩
                        obtain rfl := he
                        replace HR := hide ((unhide HQ).then HR)
                        have HZ5 := hide hz5
                        clear hz5 HIHx
                        go_wp2
                        go_roundw
                        case rel => exact ⟨A, mid, l1, (decide (rgt ≥ T)), ap, d5, by first | rfl | go_num, by first | rfl | go_num, by first | rfl | go_num, by first | rfl | (congr 1) | simp, by first | rfl | simp, unhide HNA, unhide HNB, hl1b, HAB5, HZ5, HR, HO5⟩
                        case measure => have := unhide HMI; have := unhide HAB; simp [intOf]; omega
                  · have hA0i : ¬ (A : Int) > 0 := by omega
                    have hA0d : decide (0 < A) = false := decide_eq_false hA0
                    have hcond : ¬ (decide (A > 0) && !ltB d3[A - 1]! d3[pv]!) = true := by rw [decide_eq_false hA0]; simp
                    go_quiet (first | fail)
                    have HS9 := hide (show So u _ g t N d3 from (unhide HS).drewN nq)
                    clear HS hzp
                    have HS := HS9
                    clear HS9
                    have HTQ := unhide HT
                    unfold pdT at HTQ
                    rw [if_neg hcond] at HTQ
                    have KP := hide (fun w (hr : Rw w g t N d3) => kPart g c A B pv n N t d3 w hr (unhide HZ3).symm (unhide HPB).1 (unhide HPB).2 (unhide HAB).2.1 (by omega))
                    have f1 := partS_facts A B pv d3 (unhide HPB).1 (unhide HPB).2 (by rw [unhide HZ3]; exact (unhide HAB).2.1)
                    generalize Sort.partition ltB d3 A B pv = r at *
                    obtain ⟨mid, ap, d4⟩ := r
                    dsimp only at KP f1 HTQ
                    have HZ4 : Hid (d4.size = n) := f1.2.2.trans (unhide HZ3)
                    have HMI : Hid (A ≤ mid ∧ mid < B) := ⟨f1.1, f1.2.1⟩
                    have hmb : (mid : Int) ≤ 65536 := by omega
                    obtain ⟨lft, hlft⟩ : ∃ x, x = mid - A := ⟨_, rfl⟩
                    obtain ⟨rgt, hrgt⟩ : ∃ x, x = B - mid := ⟨_, rfl⟩
                    obtain ⟨T, hT⟩ : ∃ T, T = L / 8 := ⟨_, rfl⟩
                    have hT2 : T = (B - A) / 8 := by rw [hT, unhide HLL]
                    have hq8 : (L : Int).tdiv 8 = (T : Int) := by rw [Int.tdiv_eq_ediv_of_nonneg (by omega)]; omega
                    have hlfi : (mid : Int) - (A : Int) = (lft : Int) := by omega
                    have hrgi : (B : Int) - (mid : Int) = (rgt : Int) := by omega
                    have hlfb : (lft : Int) ≤ 65536 := by omega
                    have hrgb : (rgt : Int) ≤ 65536 := by omega
                    have hTb : (T : Int) ≤ 65536 := by omega
                    obtain ⟨m1, hm1⟩ : ∃ m1, m1 = mid + 1 := ⟨_, rfl⟩
                    have HM1 : Hid ((mid : Int) + 1 = ((mid + 1 : Nat) : Int)) := by show _ = _; omega
                    have HMW : Hid (wrap64 ((mid : Int) + 1) = ((mid + 1 : Nat) : Int)) := by show _ = _; simp only [wrap64]; omega
                    clear hT f1 hcond HT hm1
                    by_cases hcl : lft < rgt
                    · have hcmp : (lft : Int) < (rgt : Int) := by omega
                      have HIHx := hide (fun w (hr : Rw w g t N d4) => unhide HIH (A) (mid) l1 d4 w (by have := unhide HMI; have := unhide HAB; omega) hr (unhide HZ4).symm (by have := unhide HMI; omega) (by have := unhide HMI; have := unhide HAB; omega) (by omega))
                      have HO5 : Hid (Sort.pdq ltB (Sort.pdq ltB d4 (A) (mid) l1 true true) (mid + 1) (B) l1 (decide (lft ≥ T)) ap = Sort.pdq ltB d a b limit true true) := by
                        show _ = _
                        have q := HTQ
                        rw [if_pos (by omega : mid - A < B - mid)] at q
                        rw [← hT2, ← hlft] at q
                        exact q
                      obtain ⟨d5, hd5⟩ : ∃ d5, d5 = Sort.pdq ltB d4 (A) (mid) l1 true true := ⟨_, rfl⟩
                      rw [← hd5] at HIHx HO5
                      have hnm : ((mid + 1 : Nat) : Int) ≤ 65536 := by have := unhide HMI; omega
                      have hnm2 : ((B : Nat) : Int) ≤ 65536 := by have := unhide HMI; omega
                      have HNA := hide hnm
                      have HNB := hide hnm2
                      have HAB5 : Hid (mid + 1 ≤ B ∧ B ≤ n ∧ B - (mid + 1) ≤ m) := by have := unhide HAB; have := unhide HMI; exact ⟨by omega, by omega, by omega⟩
                      clear HTQ hlft hrgt hT2 hd5 hnm hnm2 hcl
                      go_wp2_with (first
                        | (go_at_call 63; refine (unhide KP _ (unhide HS).rw').mono ?_; rintro e wq ⟨rfl, HQ⟩; replace HQ := hide ((unhide HS).then HQ); clear KP)
                        | fail)

                      refine (unhide HIHx _ (unhide HQ).rw').mono ?_
                      rintro e wq2 ⟨he, HR, hz5⟩
                      obtain rfl := he
                      replace HR := hide ((unhide HQ).then HR)
                      have HZ5 := hide hz5
                      clear hz5 HIHx
                      go_wp2
                      go_roundw
                      case rel => exact ⟨mid + 1, B, l1, (decide (lft ≥ T)), ap, d5, by first | rfl | go_num, by first | rfl | go_num, by first | rfl | go_num, by first | rfl | (congr 1) | simp, by first | rfl | simp, unhide HNA, unhide HNB, hl1b, HAB5, HZ5, HR, HO5⟩
                      case measure => have := unhide HMI; have := unhide HAB; simp [intOf]; omega
                    · have hcmp : ¬ (lft : Int) < (rgt : Int) := by omega
                      have HIHx := hide (fun w (hr : Rw w g t N d4) => unhide HIH (mid + 1) (B) l1 d4 w (by have := unhide HMI; have := unhide HAB; omega) hr (unhide HZ4).symm (by have := unhide HMI; omega) (by have := unhide HMI; have := unhide HAB; omega) (by omega))
                      have HO5 : Hid (Sort.pdq ltB (Sort.pdq ltB d4 (mid + 1) (B) l1 true true) (A) (mid) l1 (decide (rgt ≥ T)) ap = Sort.pdq ltB d a b limit true true) := by
                        show _ = _
                        have q := HTQ
                        rw [if_neg (by omega : ¬ mid - A < B - mid)] at q
                        rw [← hT2, ← hrgt] at q
                        exact q
                      obtain ⟨d5, hd5⟩ : ∃ d5, d5 = Sort.pdq ltB d4 (mid + 1) (B) l1 true true := ⟨_, rfl⟩
                      rw [← hd5] at HIHx HO5
                      have hnm : ((A : Nat) : Int) ≤ 65536 := by have := unhide HMI; omega
                      have hnm2 : ((mid : Nat) : Int) ≤ 65536 := by have := unhide HMI; omega
                      have HNA := hide hnm
                      have HNB := hide hnm2
                      have HAB5 : Hid (A ≤ mid ∧ mid ≤ n ∧ mid - (A) ≤ m) := by have := unhide HAB; have := unhide HMI; exact ⟨by omega, by omega, by omega⟩
                      clear HTQ hlft hrgt hT2 hd5 hnm hnm2 hcl
                      go_wp2_with (first
                        | (go_at_call 63; refine (unhide KP _ (unhide HS).rw').mono ?_; rintro e wq ⟨rfl, HQ⟩; replace HQ := hide ((unhide HS).then HQ); clear KP)
                        | fail)
                      first | rw [unhide HM1] | rw [unhide HMW] | skip
                      refine (unhide HIHx _ (unhide HQ).rw').mono ?_
                      rintro e wq2 ⟨he, HR, hz5⟩
                      obtain rfl := he
                      replace HR := hide ((unhide HQ).then HR)
                      have HZ5 := hide hz5
                      clear hz5 HIHx
                      go_wp2
                      go_roundw
                      case rel => exact ⟨A, mid, l1, (decide (rgt ≥ T)), ap, d5, by first | rfl | go_num, by first | rfl | go_num, by first | rfl | go_num, by first | rfl | (congr 1) | simp, by first | rfl | simp, unhide HNA, unhide HNB, hl1b, HAB5, HZ5, HR, HO5⟩
                      case measure => have := unhide HMI; have := unhide HAB; simp [intOf]; omega
              | decreasing =>
                rw [show hintN Sort.Hint.decreasing = 2 from rfl] at KV
                refine (unhide KV).mono ?_
                rintro e wv ⟨he, HV⟩
                obtain rfl := he
                replace HV := hide ((unhide HS).then HV)
                clear HS KV
                have HS := HV
                clear HV
                obtain ⟨pv, hpv⟩ : ∃ pv, pv = (B - 1) - (p - A) := ⟨_, rfl⟩
                have hpb : (p : Int) ≤ 65536 := by omega
                have HPV : Hid ((B : Int) - 1 - ((p : Int) - (A : Int)) = (pv : Int)) := by show _ = _; omega
                have HPB : Hid (A ≤ pv ∧ pv < B) := ⟨by omega, by omega⟩
                obtain ⟨d2, hd2⟩ : ∃ d2, d2 = Sort.reverseRange d1 A B := ⟨_, rfl⟩
                have HZ2 : Hid (d2.size = n) := by rw [hd2]; exact (Sort.reverseRange_holds d1 A B (by omega) (by rw [unhide HZ1]; exact (unhide HAB).2.1)).1.trans (unhide HZ1)
                have KR := hide (kRev g c A B n N t d1 _ (unhide HS).rw' (unhide HZ1).symm (by omega) (unhide HAB).2.1 (by omega))
                rw [← hd2] at KR
                have h3 : (if Sort.Hint.decreasing = .decreasing then Sort.reverseRange d1 A B else d1) = d2 := by rw [if_pos rfl, hd2]
                have h4 : (if Sort.Hint.decreasing = .decreasing then (B - 1) - (p - A) else p) = pv := by rw [if_pos rfl, hpv]
                clear hpv hd2
                go_wp2_with (first
                  | (go_at_call 59; refine (unhide KR).mono ?_; rintro e wr2 ⟨rfl, HQ⟩; replace HQ := hide ((unhide HS).then HQ); clear KR)
                  | fail)
                clear HS
                have HS := HQ
                clear HQ
                have h5 : (if (true && false && decide ((if Sort.Hint.decreasing = .decreasing then Sort.Hint.increasing else Sort.Hint.decreasing) = .increasing)) = true then Sort.partialInsertionSort ltB d2 A B else (d2, false)) = (d2, false) := by simp
                have HT : Hid (pdT d2 A B pv l1 true false = Sort.pdq ltB d a b limit true true) := by
                  show _ = _
                  rw [← unhide HO, pdq_round dk A B lim true false (by omega) hl0 d1 d2 l1 p pv _ (d2, false) hd1 hl1 hc h3 h4 h5 (unhide HPB).1 (unhide HPB).2 (by dsimp only; rw [unhide HZ2]; exact (unhide HAB).2.1)]
                  rfl
                obtain ⟨d3, hd3⟩ : ∃ d3, d3 = d2 := ⟨_, rfl⟩
                rw [← hd3] at HT HZ2 HS
                have HZ3 := HZ2
                clear hd3 h3 h4 h5 hc hd1 hl1 hcp HZ2 HO hl0 h12
                go_wp2
                first | rw [unhide HPV] | skip
                as_aux_lemma =>
                  have hpvb : (pv : Int) ≤ 65536 := by have := unhide HPB; omega
                  have hzp : pv < d3.size := by rw [unhide HZ3]; have := unhide HPB; have := unhide HAB; omega
                  by_cases hA0 : A > 0
                  · have hA0i : (A : Int) > 0 := by omega
                    have hza : A - 1 < d3.size := by rw [unhide HZ3]; have := unhide HPB; have := unhide HAB; omega
                    obtain ⟨c1, f1⟩ := (unhide HS).rw'.cell (A - 1) hza
                    obtain ⟨c2, f2⟩ := (unhide HS).rw'.cell pv hzp
                    have ix1 := unhide HI (A - 1) (by rw [unhide HZ3] at hza; exact hza)
                    have ix2 := unhide HI pv (by rw [unhide HZ3] at hzp; exact hzp)
                    have ix3 := ix1
                    rw [show ((A - 1 : Nat) : Int) = (A : Int) - 1 by omega] at ix3
                    obtain ⟨y1, hy1⟩ : ∃ y, y = d3[A - 1]! := ⟨_, rfl⟩
                    obtain ⟨y2, hy2⟩ : ∃ y, y = d3[pv]! := ⟨_, rfl⟩
                    rw [← hy1] at c1
                    rw [← hy2] at c2
                    have HY1 := hide hy1.symm
                    have HY2 := hide hy2.symm
                    clear hy1 hy2 hza hzp
                    cases hls : ltB y1 y2 with
                    | false =>
                      have HLS := hide (fun w => unhide HL y1 y2 w)
                      rw [hls] at HLS
                      have hcond : (decide (A > 0) && !ltB d3[A - 1]! d3[pv]!) = true := by rw [unhide HY1, unhide HY2, hls, decide_eq_true hA0]; rfl
                      clear hls
                      go_quiet (first | exact Calls.quiet_of_same (unhide HLS _) | exact quiet_any (unhide HLS _) | fail)
                      have HS9 := hide (show So u _ g t N d3 from (unhide HS).drewN nq)
                      clear HS c1 c2 f1 f2 ix1 ix2 ix3 HLS HY1 HY2
                      have HS := HS9
                      clear HS9
                      have HTQ := unhide HT
                      unfold pdT at HTQ
                      rw [if_pos hcond] at HTQ
                      have KE := hide (fun w (hr : Rw w g t N d3) => kPeq g c A B pv n N t d3 w hr (unhide HZ3).symm (unhide HPB).1 (unhide HPB).2 (unhide HAB).2.1 (by omega))
                      have f1 := peqS_facts A B pv d3 (by omega)
                      generalize Sort.partitionEqual ltB d3 A B pv = r at *
                      obtain ⟨mid, d4⟩ := r
                      dsimp only at KE f1 HTQ
                      have HO4 := hide HTQ
                      have HZ4 : Hid (d4.size = n) := f1.2.2.trans (unhide HZ3)
                      have HMI : Hid (A < mid ∧ mid ≤ B) := ⟨f1.1, f1.2.1⟩
                      have hmb : (mid : Int) ≤ 65536 := by omega
                      have HAB4 : Hid (mid ≤ B ∧ B ≤ n ∧ B - mid ≤ m) := by have := unhide HAB; exact ⟨by omega, by omega, by omega⟩
                      clear HTQ f1 hcond HT
                      go_wp2_with (first
                        | (go_at_call 62; refine (unhide KE _ (unhide HS).rw').mono ?_; rintro e wq ⟨rfl, HQ⟩; replace HQ := hide ((unhide HS).then HQ); clear KE)
                        | fail)
                      go_roundw
                      case rel => exact ⟨mid, B, l1, true, false, d4, by first | rfl | go_num, by first | rfl | go_num, by first | rfl | go_num, by first | rfl | (congr 1) | simp, by first | rfl | simp, hmb, hB, hl1b, HAB4, HZ4, HQ, HO4⟩
                      case measure => have := unhide HMI; simp [intOf]; omega
                    | true =>
                      have HLS := hide (fun w => unhide HL y1 y2 w)
                      rw [hls] at HLS
                      have hcond : ¬ (decide (A > 0) && !ltB d3[A - 1]! d3[pv]!) = true := by rw [unhide HY1, unhide HY2, hls]; simp
                      clear hls
                      go_quiet (first | exact Calls.quiet_of_same (unhide HLS _) | exact quiet_any (unhide HLS _) | fail)
                      have HS9 := hide (show So u _ g t N d3 from (unhide HS).drewN nq)
                      clear HS c1 c2 f1 f2 ix1 ix2 ix3 HLS HY1 HY2
                      have HS := HS9
                      clear HS9
                      have HTQ := unhide HT
                      unfold pdT at HTQ
                      rw [if_neg hcond] at HTQ
                      have KP := hide (fun w (hr : Rw w g t N d3) => kPart g c A B pv n N t d3 w hr (unhide HZ3).symm (unhide HPB).1 (unhide HPB).2 (unhide HAB).2.1 (by omega))
                      have f1 := partS_facts A B pv d3 (unhide HPB).1 (unhide HPB).2 (by rw [unhide HZ3]; exact (unhide HAB).2.1)
                      generalize Sort.partition ltB d3 A B pv = r at *
                      obtain ⟨mid, ap, d4⟩ := r
                      dsimp only at KP f1 HTQ
                      have HZ4 : Hid (d4.size = n) := f1.2.2.trans (unhide HZ3)
                      have HMI : Hid (A ≤ mid ∧ mid < B) := ⟨f1.1, f1.2.1⟩
                      have hmb : (mid : Int) ≤ 65536 := by omega
                      obtain ⟨lft, hlft⟩ : ∃ x, x = mid - A := ⟨_, rfl⟩
                      obtain ⟨rgt, hrgt⟩ : ∃ x, x = B - mid := ⟨_, rfl⟩
                      obtain ⟨T, hT⟩ : ∃ T, T = L / 8 := ⟨_, rfl⟩
                      have hT2 : T = (B - A) / 8 := by rw [hT, unhide HLL]
                      have hq8 : (L : Int).tdiv 8 = (T : Int) := by rw [Int.tdiv_eq_ediv_of_nonneg (by omega)]; omega
                      have hlfi : (mid : Int) - (A : Int) = (lft : Int) := by omega
                      have hrgi : (B : Int) - (mid : Int) = (rgt : Int) := by omega
                      have hlfb : (lft : Int) ≤ 65536 := by omega
                      have hrgb : (rgt : Int) ≤ 65536 := by omega
                      have hTb : (T : Int) ≤ 65536 := by omega
                      obtain ⟨m1, hm1⟩ : ∃ m1, m1 = mid + 1 := ⟨_, rfl⟩
                      have HM1 : Hid ((mid : Int) + 1 = ((mid + 1 : Nat) : Int)) := by show _ = _; omega
                      have HMW : Hid (wrap64 ((mid : Int) + 1) = ((mid + 1 : Nat) : Int)) := by show _ = _; simp only [wrap64]; omega
                      clear hT f1 hcond HT hm1
                      by_cases hcl : lft < rgt
                      · have hcmp : (lft : Int) < (rgt : Int) := by omega
                        have HIHx := hide (fun w (hr : Rw w g t N d4) => unhide HIH (A) (mid) l1 d4 w (by have := unhide HMI; have := unhide HAB; omega) hr (unhide HZ4).symm (by have := unhide HMI; omega) (by have := unhide HMI; have := unhide HAB; omega) (by omega))
                        have HO5 : Hid (Sort.pdq ltB (Sort.pdq ltB d4 (A) (mid) l1 true true) (mid + 1) (B) l1 (decide (lft ≥ T)) ap = Sort.pdq ltB d a b limit true true) := by
                          show _ = _
                          have q := HTQ
                          rw [if_pos (by omega : mid - A < B - mid)] at q
                          rw [← hT2, ← hlft] at q
                          exact q
                        obtain ⟨d5, hd5⟩ : ∃ d5, d5 = Sort.pdq ltB d4 (A) (mid) l1 true true := ⟨_, rfl⟩
                        rw [← hd5] at HIHx HO5
                        have hnm : ((mid + 1 : Nat) : Int) ≤ 65536 := by have := unhide HMI; omega
                        have hnm2 : ((B : Nat) : Int) ≤ 65536 := by have := unhide HMI; omega
                        have HNA := hide hnm
                        have HNB := hide hnm2
                        have HAB5 : Hid (mid + 1 ≤ B ∧ B ≤ n ∧ B - (mid + 1) ≤ m) := by have := unhide HAB; have := unhide HMI; exact ⟨by omega, by omega, by omega⟩
                        clear HTQ hlft hrgt hT2 hd5 hnm hnm2 hcl
                        go_wp2_with (first
                          | (go_at_call 63; refine (unhide KP _ (unhide HS).rw').mono ?_; rintro e wq ⟨rfl, HQ⟩; replace HQ := hide ((unhide HS).then HQ); clear KP)
                          | fail)

                        refine (unhide HIHx _ (unhide HQ).rw').mono ?_
                        rintro e wq2 ⟨he, HR, hz5⟩
                        obtain rfl := he
                        replace HR := hide ((unhide HQ).then HR)
                        have HZ5 := hide hz5
                        clear hz5 HIHx
                        go_wp2
                        go_roundw
                        case rel => exact ⟨mid + 1, B, l1, (decide (lft ≥ T)), ap, d5, by first | rfl | go_num, by first | rfl | go_num, by first | rfl | go_num, by first | rfl | (congr 1) | simp, by first | rfl | simp, unhide HNA, unhide HNB, hl1b, HAB5, HZ5, HR, HO5⟩
                        case measure => have := unhide HMI; have := unhide HAB; simp [intOf]; omega
                      · have hcmp : ¬ (lft : Int) < (rgt : Int) := by omega
                        have HIHx := hide (fun w (hr : Rw w g t N d4) => unhide HIH (mid + 1) (B) l1 d4 w (by have := unhide HMI; have := unhide HAB; omega) hr (unhide HZ4).symm (by have := unhide HMI; omega) (by have := unhide HMI; have := unhide HAB; omega) (by omega))
                        have HO5 : Hid (Sort.pdq ltB (Sort.pdq ltB d4 (mid + 1) (B) l1 true true) (A) (mid) l1 (decide (rgt ≥ T)) ap = Sort.pdq ltB d a b limit true true) := by
                          show _ = _
                          have q := HTQ
                          rw [if_neg (by omega : ¬ mid - A < B - mid)] at q
                          rw [← hT2, ← hrgt] at q
                          exact q
                        obtain ⟨d5, hd5⟩ : ∃ d5, d5 = Sort.pdq ltB d4 (mid + 1) (B) l1 true true := ⟨_, rfl⟩
                        rw [← hd5] at HIHx HO5
                        have hnm : ((A : Nat) : Int) ≤ 65536 := by have := unhide HMI; omega
                        have hnm2 : ((mid : Nat) : Int) ≤ 65536 := by have := unhide HMI; omega
                        have HNA := hide hnm
                        have HNB := hide hnm2
                        have HAB5 : Hid (A ≤ mid ∧ mid ≤ n ∧ mid - (A) ≤ m) := by have := unhide HAB; have := unhide HMI; exact ⟨by omega, by omega, by omega⟩
                        clear HTQ hlft hrgt hT2 hd5 hnm hnm2 hcl
                        go_wp2_with (first
                          | (go_at_call 63; refine (unhide KP _ (unhide HS).rw').mono ?_; rintro e wq ⟨rfl, HQ⟩; replace HQ := hide ((unhide HS).then HQ); clear KP)
                          | fail)
                        first | rw [unhide HM1] | rw [unhide HMW] | skip
                        refine (unhide HIHx _ (unhide HQ).rw').mono ?_
                        rintro e wq2 ⟨he, HR, hz5⟩
                        obtain rfl := he
                        replace HR := hide ((unhide HQ).then HR)
                        have HZ5 := hide hz5
                        clear hz5 HIHx
                        go_wp2
                        go_roundw
                        case rel => exact ⟨A, mid, l1, (decide (rgt ≥ T)), ap, d5, by first | rfl | go_num, by first | rfl | go_num, by first | rfl | go_num, by first | rfl | (congr 1) | simp, by first | rfl | simp, unhide HNA, unhide HNB, hl1b, HAB5, HZ5, HR, HO5⟩
                        case measure => have := unhide HMI; have := unhide HAB; simp [intOf]; omega
                  · have hA0i : ¬ (A : Int) > 0 := by omega
                    have hA0d : decide (0 < A) = false := decide_eq_false hA0
                    have hcond : ¬ (decide (A > 0) && !ltB d3[A - 1]! d3[pv]!) = true := by rw [decide_eq_false hA0]; simp
                    go_quiet (first | fail)
                    have HS9 := hide (show So u _ g t N d3 from (unhide HS).drewN nq)
                    clear HS hzp
                    have HS := HS9
                    clear HS9
                    have HTQ := unhide HT
                    unfold pdT at HTQ
                    rw [if_neg hcond] at HTQ
                    have KP := hide (fun w (hr : Rw w g t N d3) => kPart g c A B pv n N t d3 w hr (unhide HZ3).symm (unhide HPB).1 (unhide HPB).2 (unhide HAB).2.1 (by omega))
                    have f1 := partS_facts A B pv d3 (unhide HPB).1 (unhide HPB).2 (by rw [unhide HZ3]; exact (unhide HAB).2.1)
                    generalize Sort.partition ltB d3 A B pv = r at *
                    obtain ⟨mid, ap, d4⟩ := r
                    dsimp only at KP f1 HTQ
                    have HZ4 : Hid (d4.size = n) := f1.2.2.trans (unhide HZ3)
                    have HMI : Hid (A ≤ mid ∧ mid < B) := ⟨f1.1, f1.2.1⟩
                    have hmb : (mid : Int) ≤ 65536 := by omega
                    obtain ⟨lft, hlft⟩ : ∃ x, x = mid - A := ⟨_, rfl⟩
                    obtain ⟨rgt, hrgt⟩ : ∃ x, x = B - mid := ⟨_, rfl⟩
                    obtain ⟨T, hT⟩ : ∃ T, T = L / 8 := ⟨_, rfl⟩
                    have hT2 : T = (B - A) / 8 := by rw [hT, unhide HLL]
                    have hq8 : (L : Int).tdiv 8 = (T : Int) := by rw [Int.tdiv_eq_ediv_of_nonneg (by omega)]; omega
                    have hlfi : (mid : Int) - (A : Int) = (lft : Int) := by omega
                    have hrgi : (B : Int) - (mid : Int) = (rgt : Int) := by omega
                    have hlfb : (lft : Int) ≤ 65536 := by omega
                    have hrgb : (rgt : Int) ≤ 65536 := by omega
                    have hTb : (T : Int) ≤ 65536 := by omega
                    obtain ⟨m1, hm1⟩ : ∃ m1, m1 = mid + 1 := ⟨_, rfl⟩
                    have HM1 : Hid ((mid : Int) + 1 = ((mid + 1 : Nat) : Int)) := by show _ = _; omega
                    have HMW : Hid (wrap64 ((mid : Int) + 1) = ((mid + 1 : Nat) : Int)) := by show _ = _; simp only [wrap64]; omega
                    clear hT f1 hcond HT hm1
                    by_cases hcl : lft < rgt
                    · have hcmp : (lft : Int) < (rgt : Int) := by omega
                      have HIHx := hide (fun w (hr : Rw w g t N d4) => unhide HIH (A) (mid) l1 d4 w (by have := unhide HMI; have := unhide HAB; omega) hr (unhide HZ4).symm (by have := unhide HMI; omega) (by have := unhide HMI; have := unhide HAB; omega) (by omega))
                      have HO5 : Hid (Sort.pdq ltB (Sort.pdq ltB d4 (A) (mid) l1 true true) (mid + 1) (B) l1 (decide (lft ≥ T)) ap = Sort.pdq ltB d a b limit true true) := by
                        show _ = _
                        have q := HTQ
                        rw [if_pos (by omega : mid - A < B - mid)] at q
                        rw [← hT2, ← hlft] at q
                        exact q
                      obtain ⟨d5, hd5⟩ : ∃ d5, d5 = Sort.pdq ltB d4 (A) (mid) l1 true true := ⟨_, rfl⟩
                      rw [← hd5] at HIHx HO5
                      have hnm : ((mid + 1 : Nat) : Int) ≤ 65536 := by have := unhide HMI; omega
                      have hnm2 : ((B : Nat) : Int) ≤ 65536 := by have := unhide HMI; omega
                      have HNA := hide hnm
                      have HNB := hide hnm2
                      have HAB5 : Hid (mid + 1 ≤ B ∧ B ≤ n ∧ B - (mid + 1) ≤ m) := by have := unhide HAB; have := unhide HMI; exact ⟨by omega, by omega, by omega⟩
                      clear HTQ hlft hrgt hT2 hd5 hnm hnm2 hcl
                      go_wp2_with (first
                        | (go_at_call 63; refine (unhide KP _ (unhide HS).rw').mono ?_; rintro e wq ⟨rfl, HQ⟩; replace HQ := hide ((unhide HS).then HQ); clear KP)
                        | fail)

                      refine (unhide HIHx _ (unhide HQ).rw').mono ?_
                      rintro e wq2 ⟨he, HR, hz5⟩
                      obtain rfl := he
                      replace HR := hide ((unhide HQ).then HR)
                      have HZ5 := hide hz5
                      clear hz5 HIHx
                      go_wp2
                      go_roundw
                      case rel => exact ⟨mid + 1, B, l1, (decide (lft ≥ T)), ap, d5, by first | rfl | go_num, by first | rfl | go_num, by first | rfl | go_num, by first | rfl | (congr 1) | simp, by first | rfl | simp, unhide HNA, unhide HNB, hl1b, HAB5, HZ5, HR, HO5⟩
                      case measure => have := unhide HMI; have := unhide HAB; simp [intOf]; omega
                    · have hcmp : ¬ (lft : Int) < (rgt : Int) := by omega
                      have HIHx := hide (fun w (hr : Rw w g t N d4) => unhide HIH (mid + 1) (B) l1 d4 w (by have := unhide HMI; have := unhide HAB; omega) hr (unhide HZ4).symm (by have := unhide HMI; omega) (by have := unhide HMI; have := unhide HAB; omega) (by omega))
                      have HO5 : Hid (Sort.pdq ltB (Sort.pdq ltB d4 (mid + 1) (B) l1 true true) (A) (mid) l1 (decide (rgt ≥ T)) ap = Sort.pdq ltB d a b limit true true) := by
                        show _ = _
                        have q := HTQ
                        rw [if_neg (by omega : ¬ mid - A < B - mid)] at q
                        rw [← hT2, ← hrgt] at q
                        exact q
                      obtain ⟨d5, hd5⟩ : ∃ d5, d5 = Sort.pdq ltB d4 (mid + 1) (B) l1 true true := ⟨_, rfl⟩
                      rw [← hd5] at HIHx HO5
                      have hnm : ((A : Nat) : Int) ≤ 65536 := by have := unhide HMI; omega
                      have hnm2 : ((mid : Nat) : Int) ≤ 65536 := by have := unhide HMI; omega
                      have HNA := hide hnm
                      have HNB := hide hnm2
                      have HAB5 : Hid (A ≤ mid ∧ mid ≤ n ∧ mid - (A) ≤ m) := by have := unhide HAB; have := unhide HMI; exact ⟨by omega, by omega, by omega⟩
                      clear HTQ hlft hrgt hT2 hd5 hnm hnm2 hcl
                      go_wp2_with (first
                        | (go_at_call 63; refine (unhide KP _ (unhide HS).rw').mono ?_; rintro e wq ⟨rfl, HQ⟩; replace HQ := hide ((unhide HS).then HQ); clear KP)
                        | fail)
                      first | rw [unhide HM1] | rw [unhide HMW] | skip
                      refine (unhide HIHx _ (unhide HQ).rw').mono ?_
                      rintro e wq2 ⟨he, HR, hz5⟩
                      obtain rfl := he
                      replace HR := hide ((unhide HQ).then HR)
                      have HZ5 := hide hz5
                      clear hz5 HIHx
                      go_wp2
                      go_roundw
                      case rel => exact ⟨A, mid, l1, (decide (rgt ≥ T)), ap, d5, by first | rfl | go_num, by first | rfl | go_num, by first | rfl | go_num, by first | rfl | (congr 1) | simp, by first | rfl | simp, unhide HNA, unhide HNB, hl1b, HAB5, HZ5, HR, HO5⟩
                      case measure => have := unhide HMI; have := unhide HAB; simp [intOf]; omega

            | true =>
              obtain ⟨d1, hd1'⟩ : ∃ d1, d1 = dk := ⟨_, rfl⟩
              obtain ⟨l1, hl1'⟩ : ∃ l1, l1 = lim := ⟨_, rfl⟩
              have hl1b : (l1 : Int) ≤ 64 := by omega
              have hd1 : (if (!true) = true then Sort.breakPatterns dk A B else dk) = d1 := by rw [hd1']; rfl
              have hl1 : (if (!true) = true then lim - 1 else lim) = l1 := by rw [hl1']; rfl
              have HZ1 : Hid (d1.size = n) := by rw [hd1']; exact HZ
              rw [← hd1'] at HS
              clear hd1'
              go_wp2_with fail
              rw [← hl1']
              clear hl1'
              have hcp := Sort.choosePivot_holds ltB d1 A B (by omega)
              have KV := hide (kPiv g c A B n N t d1 _ (unhide HS).rw' (unhide HZ1).symm (by omega) (unhide HAB).2.1 (by omega))
              generalize hc : Sort.choosePivot ltB d1 A B = cp at *
              obtain ⟨p, hh⟩ := cp
              dsimp only at KV hcp
              cases hh with
              | unknown =>
                rw [show hintN Sort.Hint.unknown = 0 from rfl] at KV
                refine (unhide KV).mono ?_
                rintro e wv ⟨he, HV⟩
                obtain rfl := he
                replace HV := hide ((unhide HS).then HV)
                clear HS KV
                have HS := HV
                clear HV
                obtain ⟨pv, hpv⟩ : ∃ pv, pv = p := ⟨_, rfl⟩
                have HPB : Hid (A ≤ pv ∧ pv < B) := by rw [hpv]; exact hcp
                have hpb : (p : Int) ≤ 65536 := by omega
                obtain ⟨d2, hd2⟩ : ∃ d2, d2 = d1 := ⟨_, rfl⟩
                have HZ2 : Hid (d2.size = n) := by rw [hd2]; exact HZ1
                have h3 : (if Sort.Hint.unknown = .decreasing then Sort.reverseRange d1 A B else d1) = d2 := by rw [if_neg (by decide), hd2]
                have h4 : (if Sort.Hint.unknown = .decreasing then (B - 1) - (p - A) else p) = pv := by rw [if_neg (by decide), hpv]
                rw [← hd2] at HS
                rw [← hpv]
                clear hpv hd2
                have h5 : (if (true && true && decide ((if Sort.Hint.unknown = .decreasing then Sort.Hint.increasing else Sort.Hint.unknown) = .increasing)) = true then Sort.partialInsertionSort ltB d2 A B else (d2, false)) = (d2, false) := by simp
                have HT : Hid (pdT d2 A B pv l1 true true = Sort.pdq ltB d a b limit true true) := by
                  show _ = _
                  rw [← unhide HO, pdq_round dk A B lim true true (by omega) hl0 d1 d2 l1 p pv _ (d2, false) hd1 hl1 hc h3 h4 h5 (unhide HPB).1 (unhide HPB).2 (by dsimp only; rw [unhide HZ2]; exact (unhide HAB).2.1)]
                  rfl
                obtain ⟨d3, hd3⟩ : ∃ d3, d3 = d2 := ⟨_, rfl⟩
                rw [← hd3] at HT HZ2 HS
                have HZ3 := HZ2
                clear hd3 h3 h4 h5 hc hd1 hl1 hcp HZ2 HO hl0 h12
                go_wp2
                as_aux_lemma =>
                  have hpvb : (pv : Int) ≤ 65536 := by have := unhide HPB; omega
                  have hzp : pv < d3.size := by rw [unhide HZ3]; have := unhide HPB; have := unhide HAB; omega
                  by_cases hA0 : A > 0
                  · have hA0i : (A : Int) > 0 := by omega
                    have hza : A - 1 < d3.size := by rw [unhide HZ3]; have := unhide HPB; have := unhide HAB; omega
                    obtain ⟨c1, f1⟩ := (unhide HS).rw'.cell (A - 1) hza
                    obtain ⟨c2, f2⟩ := (unhide HS).rw'.cell pv hzp
                    have ix1 := unhide HI (A - 1) (by rw [unhide HZ3] at hza; exact hza)
                    have ix2 := unhide HI pv (by rw [unhide HZ3] at hzp; exact hzp)
                    have ix3 := ix1
                    rw [show ((A - 1 : Nat) : Int) = (A : Int) - 1 by omega] at ix3
                    obtain ⟨y1, hy1⟩ : ∃ y, y = d3[A - 1]! := ⟨_, rfl⟩
                    obtain ⟨y2, hy2⟩ : ∃ y, y = d3[pv]! := ⟨_, rfl⟩
                    rw [← hy1] at c1
                    rw [← hy2] at c2
                    have HY1 := hide hy1.symm
                    have HY2 := hide hy2.symm
                    clear hy1 hy2 hza hzp
                    cases hls : ltB y1 y2 with
                    | false =>
                      have HLS := hide (fun w => unhide HL y1 y2 w)
                      rw [hls] at HLS
                      have hcond : (decide (A > 0) && !ltB d3[A - 1]! d3[pv]!) = true := by rw [unhide HY1, unhide HY2, hls, decide_eq_true hA0]; rfl
                      clear hls
                      go_quiet (first | exact Calls.quiet_of_same (unhide HLS _) | exact quiet_any (unhide HLS _) | fail)
                      have HS9 := hide (show So u _ g t N d3 from (unhide HS).drewN nq)
                      clear HS c1 c2 f1 f2 ix1 ix2 ix3 HLS HY1 HY2
                      have HS := HS9
                      clear HS9
                      have HTQ := unhide HT
                      unfold pdT at HTQ
                      rw [if_pos hcond] at HTQ
                      have KE := hide (fun w (hr : Rw w g t N d3) => kPeq g c A B pv n N t d3 w hr (unhide HZ3).symm (unhide HPB).1 (unhide HPB).2 (unhide HAB).2.1 (by omega))
                      have f1 := peqS_facts A B pv d3 (by omega)
                      generalize Sort.partitionEqual ltB d3 A B pv = r at *
                      obtain ⟨mid, d4⟩ := r
                      dsimp only at KE f1 HTQ
                      have HO4 := hide HTQ
                      have HZ4 : Hid (d4.size = n) := f1.2.2.trans (unhide HZ3)
                      have HMI : Hid (A < mid ∧ mid ≤ B) := ⟨f1.1, f1.2.1⟩
                      have hmb : (mid : Int) ≤ 65536 := by omega
                      have HAB4 : Hid (mid ≤ B ∧ B ≤ n ∧ B - mid ≤ m) := by have := unhide HAB; exact ⟨by omega, by omega, by omega⟩
                      clear HTQ f1 hcond HT
                      go_wp2_with (first
                        | (go_at_call 62; refine (unhide KE _ (unhide HS).rw').mono ?_; rintro e wq ⟨rfl, HQ⟩; replace HQ := hide ((unhide HS).then HQ); clear KE)
                        | fail)
                      go_roundw
                      case rel => exact ⟨mid, B, l1, true, true, d4, by first | rfl | go_num, by first | rfl | go_num, by first | rfl | go_num, by first | rfl | (congr 1) | simp, by first | rfl | simp, hmb, hB, hl1b, HAB4, HZ4, HQ, HO4⟩
                      case measure => have := unhide HMI; simp [intOf]; omega
                    | true =>
                      have HLS := hide (fun w => unhide HL y1 y2 w)
                      rw [hls] at HLS
                      have hcond : ¬ (decide (A > 0) && !ltB d3[A - 1]! d3[pv]!) = true := by rw [unhide HY1, unhide HY2, hls]; simp
                      clear hls
                      go_quiet (first | exact Calls.quiet_of_same (unhide HLS _) | exact quiet_any (unhide HLS _) | fail)
                      have HS9 := hide (show So u _ g t N d3 from (unhide HS).drewN nq)
                      clear HS c1 c2 f1 f2 ix1 ix2 ix3 HLS HY1 HY2
                      have HS := HS9
                      clear HS9
                      have HTQ := unhide HT
                      unfold pdT at HTQ
                      rw [if_neg hcond] at HTQ
                      have KP := hide (fun w (hr : Rw w g t N d3) => kPart g c A B pv n N t d3 w hr (unhide HZ3).symm (unhide HPB).1 (unhide HPB).2 (unhide HAB).2.1 (by omega))
                      have f1 := partS_facts A B pv d3 (unhide HPB).1 (unhide HPB).2 (by rw [unhide HZ3]; exact (unhide HAB).2.1)
                      generalize Sort.partition ltB d3 A B pv = r at *
                      obtain ⟨mid, ap, d4⟩ := r
                      dsimp only at KP f1 HTQ
                      have HZ4 : Hid (d4.size = n) := f1.2.2.trans (unhide HZ3)
                      have HMI : Hid (A ≤ mid ∧ mid < B) := ⟨f1.1, f1.2.1⟩
                      have hmb : (mid : Int) ≤ 65536 := by omega
                      obtain ⟨lft, hlft⟩ : ∃ x, x = mid - A := ⟨_, rfl⟩
                      obtain ⟨rgt, hrgt⟩ : ∃ x, x = B - mid := ⟨_, rfl⟩
                      obtain ⟨T, hT⟩ : ∃ T, T = L / 8 := ⟨_, rfl⟩
                      have hT2 : T = (B - A) / 8 := by rw [hT, unhide HLL]
                      have hq8 : (L : Int).tdiv 8 = (T : Int) := by rw [Int.tdiv_eq_ediv_of_nonneg (by omega)]; omega
                      have hlfi : (mid : Int) - (A : Int) = (lft : Int) := by omega
                      have hrgi : (B : Int) - (mid : Int) = (rgt : Int) := by omega
                      have hlfb : (lft : Int) ≤ 65536 := by omega
                      have hrgb : (rgt : Int) ≤ 65536 := by omega
                      have hTb : (T : Int) ≤ 65536 := by omega
                      obtain ⟨m1, hm1⟩ : ∃ m1, m1 = mid + 1 := ⟨_, rfl⟩
                      have HM1 : Hid ((mid : Int) + 1 = ((mid + 1 : Nat) : Int)) := by show _ = _; omega
                      have HMW : Hid (wrap64 ((mid : Int) + 1) = ((mid + 1 : Nat) : Int)) := by show _ = _; simp only [wrap64]; omega
                      clear hT f1 hcond HT hm1
                      by_cases hcl : lft < rgt
                      · have hcmp : (lft : Int) < (rgt : Int) := by omega
                        have HIHx := hide (fun w (hr : Rw w g t N d4) => unhide HIH (A) (mid) l1 d4 w (by have := unhide HMI; have := unhide HAB; omega) hr (unhide HZ4).symm (by have := unhide HMI; omega) (by have := unhide HMI; have := unhide HAB; omega) (by omega))
                        have HO5 : Hid (Sort.pdq ltB (Sort.pdq ltB d4 (A) (mid) l1 true true) (mid + 1) (B) l1 (decide (lft ≥ T)) ap = Sort.pdq ltB d a b limit true true) := by
                          show _ = _
                          have q := HTQ
                          rw [if_pos (by omega : mid - A < B - mid)] at q
                          rw [← hT2, ← hlft] at q
                          exact q
                        obtain ⟨d5, hd5⟩ : ∃ d5, d5 = Sort.pdq ltB d4 (A) (mid) l1 true true := ⟨_, rfl⟩
                        rw [← hd5] at HIHx HO5
                        have hnm : ((mid + 1 : Nat) : Int) ≤ 65536 := by have := unhide HMI; omega
                        have hnm2 : ((B : Nat) : Int) ≤ 65536 := by have := unhide HMI; omega
                        have HNA := hide hnm
                        have HNB := hide hnm2
                        have HAB5 : Hid (mid + 1 ≤ B ∧ B ≤ n ∧ B - (mid + 1) ≤ m) := by have := unhide HAB; have := unhide HMI; exact ⟨by omega, by omega, by omega⟩
                        clear HTQ hlft hrgt hT2 hd5 hnm hnm2 hcl
                        go_wp2_with (first
                          | (go_at_call 63; refine (unhide KP _ (unhide HS).rw').mono ?_; rintro e wq ⟨rfl, HQ⟩; replace HQ := hide ((unhide HS).then HQ); clear KP)
                          | fail)

                        refine (unhide HIHx _ (unhide HQ).rw').mono ?_
                        rintro e wq2 ⟨he, HR, hz5⟩
                        obtain rfl := he
                        replace HR := hide ((unhide HQ).then HR)
                        have HZ5 := hide hz5
                        clear hz5 HIHx
                        go_wp2
                        go_roundw
                        case rel => exact ⟨mid + 1, B, l1, (decide (lft ≥ T)), ap, d5, by first | rfl | go_num, by first | rfl | go_num, by first | rfl | go_num, by first | rfl | (congr 1) | simp, by first | rfl | simp, unhide HNA, unhide HNB, hl1b, HAB5, HZ5, HR, HO5⟩
                        case measure => have := unhide HMI; have := unhide HAB; simp [intOf]; omega
                      · have hcmp : ¬ (lft : Int) < (rgt : Int) := by omega
                        have HIHx := hide (fun w (hr : Rw w g t N d4) => unhide HIH (mid + 1) (B) l1 d4 w (by have := unhide HMI; have := unhide HAB; omega) hr (unhide HZ4).symm (by have := unhide HMI; omega) (by have := unhide HMI; have := unhide HAB; omega) (by omega))
                        have HO5 : Hid (Sort.pdq ltB (Sort.pdq ltB d4 (mid + 1) (B) l1 true true) (A) (mid) l1 (decide (rgt ≥ T)) ap = Sort.pdq ltB d a b limit true true) := by
                          show _ = _
                          have q := HTQ
                          rw [if_neg (by omega : ¬ mid - A < B - mid)] at q
                          rw [← hT2, ← hrgt] at q
                          exact q
                        obtain ⟨d5, hd5⟩ : ∃ d5, d5 = Sort.pdq ltB d4 (mid + 1) (B) l1 true true := ⟨_, rfl⟩
                        rw [← hd5] at HIHx HO5
                        have hnm : ((A : Nat) : Int) ≤ 65536 := by have := unhide HMI; omega
                        have hnm2 : ((mid : Nat) : Int) ≤ 65536 := by have := unhide HMI; omega
                        have HNA := hide hnm
                        have HNB := hide hnm2
                        have HAB5 : Hid (A ≤ mid ∧ mid ≤ n ∧ mid - (A) ≤ m) := by have := unhide HAB; have := unhide HMI; exact ⟨by omega, by omega, by omega⟩
                        clear HTQ hlft hrgt hT2 hd5 hnm hnm2 hcl
                        go_wp2_with (first
                          | (go_at_call 63; refine (unhide KP _ (unhide HS).rw').mono ?_; rintro e wq ⟨rfl, HQ⟩; replace HQ := hide ((unhide HS).then HQ); clear KP)
                          | fail)
                        first | rw [unhide HM1] | rw [unhide HMW] | skip
                        refine (unhide HIHx _ (unhide HQ).rw').mono ?_
                        rintro e wq2 ⟨he, HR, hz5⟩
                        obtain rfl := he
                        replace HR := hide ((unhide HQ).then HR)
                        have HZ5 := hide hz5
                        clear hz5 HIHx
                        go_wp2
                        go_roundw
                        case rel => exact ⟨A, mid, l1, (decide (rgt ≥ T)), ap, d5, by first | rfl | go_num, by first | rfl | go_num, by first | rfl | go_num, by first | rfl | (congr 1) | simp, by first | rfl | simp, unhide HNA, unhide HNB, hl1b, HAB5, HZ5, HR, HO5⟩
                        case measure => have := unhide HMI; have := unhide HAB; simp [intOf]; omega
                  · have hA0i : ¬ (A : Int) > 0 := by omega
                    have hA0d : decide (0 < A) = false := decide_eq_false hA0
                    have hcond : ¬ (decide (A > 0) && !ltB d3[A - 1]! d3[pv]!) = true := by rw [decide_eq_false hA0]; simp
                    go_quiet (first | fail)
                    have HS9 := hide (show So u _ g t N d3 from (unhide HS).drewN nq)
                    clear HS hzp
                    have HS := HS9
                    clear HS9
                    have HTQ := unhide HT
                    unfold pdT at HTQ
                    rw [if_neg hcond] at HTQ
                    have KP := hide (fun w (hr : Rw w g t N d3) => kPart g c A B pv n N t d3 w hr (unhide HZ3).symm (unhide HPB).1 (unhide HPB).2 (unhide HAB).2.1 (by omega))
                    have f1 := partS_facts A B pv d3 (unhide HPB).1 (unhide HPB).2 (by rw [unhide HZ3]; exact (unhide HAB).2.1)
                    generalize Sort.partition ltB d3 A B pv = r at *
                    obtain ⟨mid, ap, d4⟩ := r
                    dsimp only at KP f1 HTQ
                    have HZ4 : Hid (d4.size = n) := f1.2.2.trans (unhide HZ3)
                    have HMI : Hid (A ≤ mid ∧ mid < B) := ⟨f1.1, f1.2.1⟩
                    have hmb : (mid : Int) ≤ 65536 := by omega
                    obtain ⟨lft, hlft⟩ : ∃ x, x = mid - A := ⟨_, rfl⟩
                    obtain ⟨rgt, hrgt⟩ : ∃ x, x = B - mid := ⟨_, rfl⟩
                    obtain ⟨T, hT⟩ : ∃ T, T = L / 8 := ⟨_, rfl⟩
                    have hT2 : T = (B - A) / 8 := by rw [hT, unhide HLL]
                    have hq8 : (L : Int).tdiv 8 = (T : Int) := by rw [Int.tdiv_eq_ediv_of_nonneg (by omega)]; omega
                    have hlfi : (mid : Int) - (A : Int) = (lft : Int) := by omega
                    have hrgi : (B : Int) - (mid : Int) = (rgt : Int) := by omega
                    have hlfb : (lft : Int) ≤ 65536 := by omega
                    have hrgb : (rgt : Int) ≤ 65536 := by omega
                    have hTb : (T : Int) ≤ 65536 := by omega
                    obtain ⟨m1, hm1⟩ : ∃ m1, m1 = mid + 1 := ⟨_, rfl⟩
                    have HM1 : Hid ((mid : Int) + 1 = ((mid + 1 : Nat) : Int)) := by show _ = _; omega
                    have HMW : Hid (wrap64 ((mid : Int) + 1) = ((mid + 1 : Nat) : Int)) := by show _ = _; simp only [wrap64]; omega
                    clear hT f1 hcond HT hm1
                    by_cases hcl : lft < rgt
                    · have hcmp : (lft : Int) < (rgt : Int) := by omega
                      have HIHx := hide (fun w (hr : Rw w g t N d4) => unhide HIH (A) (mid) l1 d4 w (by have := unhide HMI; have := unhide HAB; omega) hr (unhide HZ4).symm (by have := unhide HMI; omega) (by have := unhide HMI; have := unhide HAB; omega) (by omega))
                      have HO5 : Hid (Sort.pdq ltB (Sort.pdq ltB d4 (A) (mid) l1 true true) (mid + 1) (B) l1 (decide (lft ≥ T)) ap = Sort.pdq ltB d a b limit true true) := by
                        show _ = _
                        have q := HTQ
                        rw [if_pos (by omega : mid - A < B - mid)] at q
                        rw [← hT2, ← hlft] at q
                        exact q
                      obtain ⟨d5, hd5⟩ : ∃ d5, d5 = Sort.pdq ltB d4 (A) (mid) l1 true true := ⟨_, rfl⟩
                      rw [← hd5] at HIHx HO5
                      have hnm : ((mid + 1 : Nat) : Int) ≤ 65536 := by have := unhide HMI; omega
                      have hnm2 : ((B : Nat) : Int) ≤ 65536 := by have := unhide HMI; omega
                      have HNA := hide hnm
                      have HNB := hide hnm2
                      have HAB5 : Hid (mid + 1 ≤ B ∧ B ≤ n ∧ B - (mid + 1) ≤ m) := by have := unhide HAB; have := unhide HMI; exact ⟨by omega, by omega, by omega⟩
                      clear HTQ hlft hrgt hT2 hd5 hnm hnm2 hcl
                      go_wp2_with (first
                        | (go_at_call 63; refine (unhide KP _ (unhide HS).rw').mono ?_; rintro e wq ⟨rfl, HQ⟩; replace HQ := hide ((unhide HS).then HQ); clear KP)
                        | fail)

                      refine (unhide HIHx _ (unhide HQ).rw').mono ?_
                      rintro e wq2 ⟨he, HR, hz5⟩
                      obtain rfl := he
                      replace HR := hide ((unhide HQ).then HR)
                      have HZ5 := hide hz5
                      clear hz5 HIHx
                      go_wp2
                      go_roundw
                      case rel => exact ⟨mid + 1, B, l1, (decide (lft ≥ T)), ap, d5, by first | rfl | go_num, by first | rfl | go_num, by first | rfl | go_num, by first | rfl | (congr 1) | simp, by first | rfl | simp, unhide HNA, unhide HNB, hl1b, HAB5, HZ5, HR, HO5⟩
                      case measure => have := unhide HMI; have := unhide HAB; simp [intOf]; omega
                    · have hcmp : ¬ (lft : Int) < (rgt : Int) := by omega
                      have HIHx := hide (fun w (hr : Rw w g t N d4) => unhide HIH (mid + 1) (B) l1 d4 w (by have := unhide HMI; have := unhide HAB; omega) hr (unhide HZ4).symm (by have := unhide HMI; omega) (by have := unhide HMI; have := unhide HAB; omega) (by omega))
                      have HO5 : Hid (Sort.pdq ltB (Sort.pdq ltB d4 (mid + 1) (B) l1 true true) (A) (mid) l1 (decide (rgt ≥ T)) ap = Sort.pdq ltB d a b limit true true) := by
                        show _ = _
                        have q := HTQ
                        rw [if_neg (by omega : ¬ mid - A < B - mid)] at q
                        rw [← hT2, ← hrgt] at q
                        exact q
                      obtain ⟨d5, hd5⟩ : ∃ d5, d5 = Sort.pdq ltB d4 (mid + 1) (B) l1 true true := ⟨_, rfl⟩
                      rw [← hd5] at HIHx HO5
                      have hnm : ((A : Nat) : Int) ≤ 65536 := by have := unhide HMI; omega
                      have hnm2 : ((mid : Nat) : Int) ≤ 65536 := by have := unhide HMI; omega
                      have HNA := hide hnm
                      have HNB := hide hnm2
                      have HAB5 : Hid (A ≤ mid ∧ mid ≤ n ∧ mid - (A) ≤ m) := by have := unhide HAB; have := unhide HMI; exact ⟨by omega, by omega, by omega⟩
                      clear HTQ hlft hrgt hT2 hd5 hnm hnm2 hcl
                      go_wp2_with (first
                        | (go_at_call 63; refine (unhide KP _ (unhide HS).rw').mono ?_; rintro e wq ⟨rfl, HQ⟩; replace HQ := hide ((unhide HS).then HQ); clear KP)
                        | fail)
                      first | rw [unhide HM1] | rw [unhide HMW] | skip
                      refine (unhide HIHx _ (unhide HQ).rw').mono ?_
                      rintro e wq2 ⟨he, HR, hz5⟩
                      obtain rfl := he
                      replace HR := hide ((unhide HQ).then HR)
                      have HZ5 := hide hz5
                      clear hz5 HIHx
                      go_wp2
                      go_roundw
                      case rel => exact ⟨A, mid, l1, (decide (rgt ≥ T)), ap, d5, by first | rfl | go_num, by first | rfl | go_num, by first | rfl | go_num, by first | rfl | (congr 1) | simp, by first | rfl | simp, unhide HNA, unhide HNB, hl1b, HAB5, HZ5, HR, HO5⟩
                      case measure => have := unhide HMI; have := unhide HAB; simp [intOf]; omega
              | increasing =>
                rw [show hintN Sort.Hint.increasing = 1 from rfl] at KV
                refine (unhide KV).mono ?_
                rintro e wv ⟨he, HV⟩
                obtain rfl := he
                replace HV := hide ((unhide HS).then HV)
                clear HS KV
                have HS := HV
                clear HV
                obtain ⟨pv, hpv⟩ : ∃ pv, pv = p := ⟨_, rfl⟩
                have HPB : Hid (A ≤ pv ∧ pv < B) := by rw [hpv]; exact hcp
                have hpb : (p : Int) ≤ 65536 := by omega
                obtain ⟨d2, hd2⟩ : ∃ d2, d2 = d1 := ⟨_, rfl⟩
                have HZ2 : Hid (d2.size = n) := by rw [hd2]; exact HZ1
                have h3 : (if Sort.Hint.increasing = .decreasing then Sort.reverseRange d1 A B else d1) = d2 := by rw [if_neg (by decide), hd2]
                have h4 : (if Sort.Hint.increasing = .decreasing then (B - 1) - (p - A) else p) = pv := by rw [if_neg (by decide), hpv]
                rw [← hd2] at HS
                rw [← hpv]
                clear hpv hd2
                have KS := hide (kPins g c A B n N t d2 _ (unhide HS).rw' (unhide HZ2).symm (by omega) (unhide HAB).2.1 (by omega))
                obtain ⟨pi, hpi⟩ : ∃ pi, pi = Sort.partialInsertionSort ltB d2 A B := ⟨_, rfl⟩
                have h5 : (if (true && true && decide ((if Sort.Hint.increasing = .decreasing then Sort.Hint.increasing else Sort.Hint.increasing) = .increasing)) = true then Sort.partialInsertionSort ltB d2 A B else (d2, false)) = pi := by rw [hpi]; simp
                have HZ3 : Hid (pi.1.size = n) := by rw [hpi]; exact (pinS_size A B d2).trans (unhide HZ2)
                have HR := pdq_round dk A B lim true true (by omega) hl0 d1 d2 l1 p pv _ pi hd1 hl1 hc h3 h4 h5 (unhide HPB).1 (unhide HPB).2 (by rw [unhide HZ3]; exact (unhide HAB).2.1)
                rw [unhide HO] at HR
                rw [← hpi] at KS
                obtain ⟨d3, bb⟩ := pi
                dsimp only at KS HZ3 HR
                cases bb with
                | true =>
                  rw [if_pos rfl] at HR
                  have HEN := hide HR
                  clear h3 h4 h5 hpi hc hd1 hl1 hcp HR HO hl0 h12
                  go_wp2_with (first
                    | (go_at_call 60; refine (unhide KS).mono ?_; rintro e wp2 ⟨rfl, HQ⟩; replace HQ := hide ((unhide HS).then HQ); clear KS)
                    | fail)
                  go_returns
                  rw [unhide HEN]
                  exact ⟨rfl, unhide HQ, unhide HZ3⟩
                | false =>
                  rw [if_neg (by simp)] at HR
                  have HT := hide HR.symm
                  clear h3 h4 h5 hpi hc hd1 hl1 hcp HR HO hl0 h12
                  go_wp2_with (first
                    | (go_at_call 60; refine (unhide KS).mono ?_; rintro e wp2 ⟨rfl, HQ⟩; replace HQ := hide ((unhide HS).then HQ); clear KS)
                    | fail)
                  clear HS HZ2
                  have HS := HQ
                  clear HQ
  
                  as_aux_lemma =>
                    have hpvb : (pv : Int) ≤ 65536 := by have := unhide HPB; omega
                    have hzp : pv < d3.size := by rw [unhide HZ3]; have := unhide HPB; have := unhide HAB; omega
                    by_cases hA0 : A > 0
                    · have hA0i : (A : Int) > 0 := by omega
                      have hza : A - 1 < d3.size := by rw [unhide HZ3]; have := unhide HPB; have := unhide HAB; omega
                      obtain ⟨c1, f1⟩ := (unhide HS).rw'.cell (A - 1) hza
                      obtain ⟨c2, f2⟩ := (unhide HS).rw'.cell pv hzp
                      have ix1 := unhide HI (A - 1) (by rw [unhide HZ3] at hza; exact hza)
                      have ix2 := unhide HI pv (by rw [unhide HZ3] at hzp; exact hzp)
                      have ix3 := ix1
                      rw [show ((A - 1 : Nat) : Int) = (A : Int) - 1 by omega] at ix3
                      obtain ⟨y1, hy1⟩ : ∃ y, y = d3[A - 1]! := ⟨_, rfl⟩
                      obtain ⟨y2, hy2⟩ : ∃ y, y = d3[pv]! := ⟨_, rfl⟩
                      rw [← hy1] at c1
                      rw [← hy2] at c2
                      have HY1 := hide hy1.symm
                      have HY2 := hide hy2.symm
                      clear hy1 hy2 hza hzp
                      cases hls : ltB y1 y2 with
                      | false =>
                        have HLS := hide (fun w => unhide HL y1 y2 w)
                        rw [hls] at HLS
                        have hcond : (decide (A > 0) && !ltB d3[A - 1]! d3[pv]!) = true := by rw [unhide HY1, unhide HY2, hls, decide_eq_true hA0]; rfl
                        clear hls
                        go_quiet (first | exact Calls.quiet_of_same (unhide HLS _) | exact quiet_any (unhide HLS _) | fail)
                        have HS9 := hide (show So u _ g t N d3 from (unhide HS).drewN nq)
                        clear HS c1 c2 f1 f2 ix1 ix2 ix3 HLS HY1 HY2
                        have HS := HS9
                        clear HS9
                        have HTQ := unhide HT
                        unfold pdT at HTQ
                        rw [if_pos hcond] at HTQ
                        have KE := hide (fun w (hr : Rw w g t N d3) => kPeq g c A B pv n N t d3 w hr (unhide HZ3).symm (unhide HPB).1 (unhide HPB).2 (unhide HAB).2.1 (by omega))
                        have f1 := peqS_facts A B pv d3 (by omega)
                        generalize Sort.partitionEqual ltB d3 A B pv = r at *
                        obtain ⟨mid, d4⟩ := r
                        dsimp only at KE f1 HTQ
                        have HO4 := hide HTQ
                        have HZ4 : Hid (d4.size = n) := f1.2.2.trans (unhide HZ3)
                        have HMI : Hid (A < mid ∧ mid ≤ B) := ⟨f1.1, f1.2.1⟩
                        have hmb : (mid : Int) ≤ 65536 := by omega
                        have HAB4 : Hid (mid ≤ B ∧ B ≤ n ∧ B - mid ≤ m) := by have := unhide HAB; exact ⟨by omega, by omega, by omega⟩
                        clear HTQ f1 hcond HT
                        go_wp2_with (first
                          | (go_at_call 62; refine (unhide KE _ (unhide HS).rw').mono ?_; rintro e wq ⟨rfl, HQ⟩; replace HQ := hide ((unhide HS).then HQ); clear KE)
                          | fail)
                        go_roundw
                        case rel => exact ⟨mid, B, l1, true, true, d4, by first | rfl | go_num, by first | rfl | go_num, by first | rfl | go_num, by first | rfl | (congr 1) | simp, by first | rfl | simp, hmb, hB, hl1b, HAB4, HZ4, HQ, HO4⟩
                        case measure => have := unhide HMI; simp [intOf]; omega
                      | true =>
                        have HLS := hide (fun w => unhide HL y1 y2 w)
                        rw [hls] at HLS
                        have hcond : ¬ (decide (A > 0) && !ltB d3[A - 1]! d3[pv]!) = true := by rw [unhide HY1, unhide HY2, hls]; simp
                        clear hls
                        go_quiet (first | exact Calls.quiet_of_same (unhide HLS _) | exact quiet_any (unhide HLS _) | fail)
                        have HS9 := hide (show So u _ g t N d3 from (unhide HS).drewN nq)
                        clear HS c1 c2 f1 f2 ix1 ix2 ix3 HLS HY1 HY2
                        have HS := HS9
                        clear HS9
                        have HTQ := unhide HT
                        unfold pdT at HTQ
                        rw [if_neg hcond] at HTQ
                        have KP := hide (fun w (hr : Rw w g t N d3) => kPart g c A B pv n N t d3 w hr (unhide HZ3).symm (unhide HPB).1 (unhide HPB).2 (unhide HAB).2.1 (by omega))
                        have f1 := partS_facts A B pv d3 (unhide HPB).1 (unhide HPB).2 (by rw [unhide HZ3]; exact (unhide HAB).2.1)
                        generalize Sort.partition ltB d3 A B pv = r at *
                        obtain ⟨mid, ap, d4⟩ := r
                        dsimp only at KP f1 HTQ
                        have HZ4 : Hid (d4.size = n) := f1.2.2.trans (unhide HZ3)
                        have HMI : Hid (A ≤ mid ∧ mid < B) := ⟨f1.1, f1.2.1⟩
                        have hmb : (mid : Int) ≤ 65536 := by omega
                        obtain ⟨lft, hlft⟩ : ∃ x, x = mid - A := ⟨_, rfl⟩
                        obtain ⟨rgt, hrgt⟩ : ∃ x, x = B - mid := ⟨_, rfl⟩
                        obtain ⟨T, hT⟩ : ∃ T, T = L / 8 := ⟨_, rfl⟩
                        have hT2 : T = (B - A) / 8 := by rw [hT, unhide HLL]
                        have hq8 : (L : Int).tdiv 8 = (T : Int) := by rw [Int.tdiv_eq_ediv_of_nonneg (by omega)]; omega
                        have hlfi : (mid : Int) - (A : Int) = (lft : Int) := by omega
                        have hrgi : (B : Int) - (mid : Int) = (rgt : Int) := by omega
                        have hlfb : (lft : Int) ≤ 65536 := by omega
                        have hrgb : (rgt : Int) ≤ 65536 := by omega
                        have hTb : (T : Int) ≤ 65536 := by omega
                        obtain ⟨m1, hm1⟩ : ∃ m1, m1 = mid + 1 := ⟨_, rfl⟩
                        have HM1 : Hid ((mid : Int) + 1 = ((mid + 1 : Nat) : Int)) := by show _ = _; omega
                        have HMW : Hid (wrap64 ((mid : Int) + 1) = ((mid + 1 : Nat) : Int)) := by show _ = _; simp only [wrap64]; omega
                        clear hT f1 hcond HT hm1
                        by_cases hcl : lft < rgt
                        · have hcmp : (lft : Int) < (rgt : Int) := by omega
                          have HIHx := hide (fun w (hr : Rw w g t N d4) => unhide HIH (A) (mid) l1 d4 w (by have := unhide HMI; have := unhide HAB; omega) hr (unhide HZ4).symm (by have := unhide HMI; omega) (by have := unhide HMI; have := unhide HAB; omega) (by omega))
                          have HO5 : Hid (Sort.pdq ltB (Sort.pdq ltB d4 (A) (mid) l1 true true) (mid + 1) (B) l1 (decide (lft ≥ T)) ap = Sort.pdq ltB d a b limit true true) := by
                            show _ = _
                            have q := HTQ
                            rw [if_pos (by omega : mid - A < B - mid)] at q
                            rw [← hT2, ← hlft] at q
                            exact q
                          obtain ⟨d5, hd5⟩ : ∃ d5, d5 = Sort.pdq ltB d4 (A) (mid) l1 true true := ⟨_, rfl⟩
                          rw [← hd5] at HIHx HO5
                          have hnm : ((mid + 1 : Nat) : Int) ≤ 65536 := by have := unhide HMI; omega
                          have hnm2 : ((B : Nat) : Int) ≤ 65536 := by have := unhide HMI; omega
                          have HNA := hide hnm
                          have HNB := hide hnm2
                          have HAB5 : Hid (mid + 1 ≤ B ∧ B ≤ n ∧ B - (mid + 1) ≤ m) := by have := unhide HAB; have := unhide HMI; exact ⟨by omega, by omega, by omega⟩
                          clear HTQ hlft hrgt hT2 hd5 hnm hnm2 hcl
                          go_wp2_with (first
                            | (go_at_call 63; refine (unhide KP _ (unhide HS).rw').mono ?_; rintro e wq ⟨rfl, HQ⟩; replace HQ := hide ((unhide HS).then HQ); clear KP)
                            | fail)

                          refine (unhide HIHx _ (unhide HQ).rw').mono ?_
                          rintro e wq2 ⟨he, HR, hz5⟩
                          obtain rfl := he
                          replace HR := hide ((unhide HQ).then HR)
                          have HZ5 := hide hz5
                          clear hz5 HIHx
                          go_wp2
                          go_roundw
                          case rel => exact ⟨mid + 1, B, l1, (decide (lft ≥ T)), ap, d5, by first | rfl | go_num, by first | rfl | go_num, by first | rfl | go_num, by first | rfl | (congr 1) | simp, by first | rfl | simp, unhide HNA, unhide HNB, hl1b, HAB5, HZ5, HR, HO5⟩
                          case measure => have := unhide HMI; have := unhide HAB; simp [intOf]; omega
                        · have hcmp : ¬ (lft : Int) < (rgt : Int) := by omega
                          have HIHx := hide (fun w (hr : Rw w g t N d4) => unhide HIH (mid + 1) (B) l1 d4 w (by have := unhide HMI; have := unhide HAB; omega) hr (unhide HZ4).symm (by have := unhide HMI; omega) (by have := unhide HMI; have := unhide HAB; omega) (by omega))
                          have HO5 : Hid (Sort.pdq ltB (Sort.pdq ltB d4 (mid + 1) (B) l1 true true) (A) (mid) l1 (decide (rgt ≥ T)) ap = Sort.pdq ltB d a b limit true true) := by
                            show _ = _
                            have q := HTQ
                            rw [if_neg (by omega : ¬ mid - A < B - mid)] at q
                            rw [← hT2, ← hrgt] at q
                            exact q
                          obtain ⟨d5, hd5⟩ : ∃ d5, d5 = Sort.pdq ltB d4 (mid + 1) (B) l1 true true := ⟨_, rfl⟩
                          rw [← hd5] at HIHx HO5
                          have hnm : ((A : Nat) : Int) ≤ 65536 := by have := unhide HMI; omega
                          have hnm2 : ((mid : Nat) : Int) ≤ 65536 := by have := unhide HMI; omega
                          have HNA := hide hnm
                          have HNB := hide hnm2
                          have HAB5 : Hid (A ≤ mid ∧ mid ≤ n ∧ mid - (A) ≤ m) := by have := unhide HAB; have := unhide HMI; exact ⟨by omega, by omega, by omega⟩
                          clear HTQ hlft hrgt hT2 hd5 hnm hnm2 hcl
                          go_wp2_with (first
                            | (go_at_call 63; refine (unhide KP _ (unhide HS).rw').mono ?_; rintro e wq ⟨rfl, HQ⟩; replace HQ := hide ((unhide HS).then HQ); clear KP)
                            | fail)
                          first | rw [unhide HM1] | rw [unhide HMW] | skip
                          refine (unhide HIHx _ (unhide HQ).rw').mono ?_
                          rintro e wq2 ⟨he, HR, hz5⟩
                          obtain rfl := he
                          replace HR := hide ((unhide HQ).then HR)
                          have HZ5 := hide hz5
                          clear hz5 HIHx
                          go_wp2
                          go_roundw
                          case rel => exact ⟨A, mid, l1, (decide (rgt ≥ T)), ap, d5, by first | rfl | go_num, by first | rfl | go_num, by first | rfl | go_num, by first | rfl | (congr 1) | simp, by first | rfl | simp, unhide HNA, unhide HNB, hl1b, HAB5, HZ5, HR, HO5⟩
                          case measure => have := unhide HMI; have := unhide HAB; simp [intOf]; omega
                    · have hA0i : ¬ (A : Int) > 0 := by omega
                      have hA0d : decide (0 < A) = false := decide_eq_false hA0
                      have hcond : ¬ (decide (A > 0) && !ltB d3[A - 1]! d3[pv]!) = true := by rw [decide_eq_false hA0]; simp
                      go_quiet (first | fail)
                      have HS9 := hide (show So u _ g t N d3 from (unhide HS).drewN nq)
                      clear HS hzp
                      have HS := HS9
                      clear HS9
                      have HTQ := unhide HT
                      unfold pdT at HTQ
                      rw [if_neg hcond] at HTQ
                      have KP := hide (fun w (hr : Rw w g t N d3) => kPart g c A B pv n N t d3 w hr (unhide HZ3).symm (unhide HPB).1 (unhide HPB).2 (unhide HAB).2.1 (by omega))
                      have f1 := partS_facts A B pv d3 (unhide HPB).1 (unhide HPB).2 (by rw [unhide HZ3]; exact (unhide HAB).2.1)
                      generalize Sort.partition ltB d3 A B pv = r at *
                      obtain ⟨mid, ap, d4⟩ := r
                      dsimp only at KP f1 HTQ
                      have HZ4 : Hid (d4.size = n) := f1.2.2.trans (unhide HZ3)
                      have HMI : Hid (A ≤ mid ∧ mid < B) := ⟨f1.1, f1.2.1⟩
                      have hmb : (mid : Int) ≤ 65536 := by omega
                      obtain ⟨lft, hlft⟩ : ∃ x, x = mid - A := ⟨_, rfl⟩
                      obtain ⟨rgt, hrgt⟩ : ∃ x, x = B - mid := ⟨_, rfl⟩
                      obtain ⟨T, hT⟩ : ∃ T, T = L / 8 := ⟨_, rfl⟩
                      have hT2 : T = (B - A) / 8 := by rw [hT, unhide HLL]
                      have hq8 : (L : Int).tdiv 8 = (T : Int) := by rw [Int.tdiv_eq_ediv_of_nonneg (by omega)]; omega
                      have hlfi : (mid : Int) - (A : Int) = (lft : Int) := by omega
                      have hrgi : (B : Int) - (mid : Int) = (rgt : Int) := by omega
                      have hlfb : (lft : Int) ≤ 65536 := by omega
                      have hrgb : (rgt : Int) ≤ 65536 := by omega
                      have hTb : (T : Int) ≤ 65536 := by omega
                      obtain ⟨m1, hm1⟩ : ∃ m1, m1 = mid + 1 := ⟨_, rfl⟩
                      have HM1 : Hid ((mid : Int) + 1 = ((mid + 1 : Nat) : Int)) := by show _ = _; omega
                      have HMW : Hid (wrap64 ((mid : Int) + 1) = ((mid + 1 : Nat) : Int)) := by show _ = _; simp only [wrap64]; omega
                      clear hT f1 hcond HT hm1
                      by_cases hcl : lft < rgt
                      · have hcmp : (lft : Int) < (rgt : Int) := by omega
                        have HIHx := hide (fun w (hr : Rw w g t N d4) => unhide HIH (A) (mid) l1 d4 w (by have := unhide HMI; have := unhide HAB; omega) hr (unhide HZ4).symm (by have := unhide HMI; omega) (by have := unhide HMI; have := unhide HAB; omega) (by omega))
                        have HO5 : Hid (Sort.pdq ltB (Sort.pdq ltB d4 (A) (mid) l1 true true) (mid + 1) (B) l1 (decide (lft ≥ T)) ap = Sort.pdq ltB d a b limit true true) := by
                          show _ = _
                          have q := HTQ
                          rw [if_pos (by omega : mid - A < B - mid)] at q
                          rw [← hT2, ← hlft] at q
                          exact q
                        obtain ⟨d5, hd5⟩ : ∃ d5, d5 = Sort.pdq ltB d4 (A) (mid) l1 true true := ⟨_, rfl⟩
                        rw [← hd5] at HIHx HO5
                        have hnm : ((mid + 1 : Nat) : Int) ≤ 65536 := by have := unhide HMI; omega
                        have hnm2 : ((B : Nat) : Int) ≤ 65536 := by have := unhide HMI; omega
                        have HNA := hide hnm
                        have HNB := hide hnm2
                        have HAB5 : Hid (mid + 1 ≤ B ∧ B ≤ n ∧ B - (mid + 1) ≤ m) := by have := unhide HAB; have := unhide HMI; exact ⟨by omega, by omega, by omega⟩
                        clear HTQ hlft hrgt hT2 hd5 hnm hnm2 hcl
                        go_wp2_with (first
                          | (go_at_call 63; refine (unhide KP _ (unhide HS).rw').mono ?_; rintro e wq ⟨rfl, HQ⟩; replace HQ := hide ((unhide HS).then HQ); clear KP)
                          | fail)

                        refine (unhide HIHx _ (unhide HQ).rw').mono ?_
                        rintro e wq2 ⟨he, HR, hz5⟩
                        obtain rfl := he
                        replace HR := hide ((unhide HQ).then HR)
                        have HZ5 := hide hz5
                        clear hz5 HIHx
                        go_wp2
                        go_roundw
                        case rel => exact ⟨mid + 1, B, l1, (decide (lft ≥ T)), ap, d5, by first | rfl | go_num, by first | rfl | go_num, by first | rfl | go_num, by first | rfl | (congr 1) | simp, by first | rfl | simp, unhide HNA, unhide HNB, hl1b, HAB5, HZ5, HR, HO5⟩
                        case measure => have := unhide HMI; have := unhide HAB; simp [intOf]; omega
                      · have hcmp : ¬ (lft : Int) < (rgt : Int) := by omega
                        have HIHx := hide (fun w (hr : Rw w g t N d4) => unhide HIH (mid + 1) (B) l1 d4 w (by have := unhide HMI; have := unhide HAB; omega) hr (unhide HZ4).symm (by have := unhide HMI; omega) (by have := unhide HMI; have := unhide HAB; omega) (by omega))
                        have HO5 : Hid (Sort.pdq ltB (Sort.pdq ltB d4 (mid + 1) (B) l1 true true) (A) (mid) l1 (decide (rgt ≥ T)) ap = Sort.pdq ltB d a b limit true true) := by
                          show _ = _
                          have q := HTQ
                          rw [if_neg (by omega : ¬ mid - A < B - mid)] at q
                          rw [← hT2, ← hrgt] at q
                          exact q
                        obtain ⟨d5, hd5⟩ : ∃ d5, d5 = Sort.pdq ltB d4 (mid + 1) (B) l1 true true := ⟨_, rfl⟩
                        rw [← hd5] at HIHx HO5
                        have hnm : ((A : Nat) : Int) ≤ 65536 := by have := unhide HMI; omega
                        have hnm2 : ((mid : Nat) : Int) ≤ 65536 := by have := unhide HMI; omega
                        have HNA := hide hnm
                        have HNB := hide hnm2
                        have HAB5 : Hid (A ≤ mid ∧ mid ≤ n ∧ mid - (A) ≤ m) := by have := unhide HAB; have := unhide HMI; exact ⟨by omega, by omega, by omega⟩
                        clear HTQ hlft hrgt hT2 hd5 hnm hnm2 hcl
                        go_wp2_with (first
                          | (go_at_call 63; refine (unhide KP _ (unhide HS).rw').mono ?_; rintro e wq ⟨rfl, HQ⟩; replace HQ := hide ((unhide HS).then HQ); clear KP)
                          | fail)
                        first | rw [unhide HM1] | rw [unhide HMW] | skip
                        refine (unhide HIHx _ (unhide HQ).rw').mono ?_
                        rintro e wq2 ⟨he, HR, hz5⟩
                        obtain rfl := he
                        replace HR := hide ((unhide HQ).then HR)
                        have HZ5 := hide hz5
                        clear hz5 HIHx
                        go_wp2
                        go_roundw
                        case rel => exact ⟨A, mid, l1, (decide (rgt ≥ T)), ap, d5, by first | rfl | go_num, by first | rfl | go_num, by first | rfl | go_num, by first | rfl | (congr 1) | simp, by first | rfl | simp, unhide HNA, unhide HNB, hl1b, HAB5, HZ5, HR, HO5⟩
                        case measure => have := unhide HMI; have := unhide HAB; simp [intOf]; omega
              | decreasing =>
                rw [show hintN Sort.Hint.decreasing = 2 from rfl] at KV
                refine (unhide KV).mono ?_
                rintro e wv ⟨he, HV⟩
                obtain rfl := he
                replace HV := hide ((unhide HS).then HV)
                clear HS KV
                have HS := HV
                clear HV
                obtain ⟨pv, hpv⟩ : ∃ pv, pv = (B - 1) - (p - A) := ⟨_, rfl⟩
                have hpb : (p : Int) ≤ 65536 := by omega
                have HPV : Hid ((B : Int) - 1 - ((p : Int) - (A : Int)) = (pv : Int)) := by show _ = _; omega
                have HPB : Hid (A ≤ pv ∧ pv < B) := ⟨by omega, by omega⟩
                obtain ⟨d2, hd2⟩ : ∃ d2, d2 = Sort.reverseRange d1 A B := ⟨_, rfl⟩
                have HZ2 : Hid (d2.size = n) := by rw [hd2]; exact (Sort.reverseRange_holds d1 A B (by omega) (by rw [unhide HZ1]; exact (unhide HAB).2.1)).1.trans (unhide HZ1)
                have KR := hide (kRev g c A B n N t d1 _ (unhide HS).rw' (unhide HZ1).symm (by omega) (unhide HAB).2.1 (by omega))
                rw [← hd2] at KR
                have h3 : (if Sort.Hint.decreasing = .decreasing then Sort.reverseRange d1 A B else d1) = d2 := by rw [if_pos rfl, hd2]
                have h4 : (if Sort.Hint.decreasing = .decreasing then (B - 1) - (p - A) else p) = pv := by rw [if_pos rfl, hpv]
                clear hpv hd2
                go_wp2_with (first
                  | (go_at_call 59; refine (unhide KR).mono ?_; rintro e wr2 ⟨rfl, HQ⟩; replace HQ := hide ((unhide HS).then HQ); clear KR)
                  | fail)
                clear HS
                have HS := HQ
                clear HQ
                have KS := hide (kPins g c A B n N t d2 _ (unhide HS).rw' (unhide HZ2).symm (by omega) (unhide HAB).2.1 (by omega))
                obtain ⟨pi, hpi⟩ : ∃ pi, pi = Sort.partialInsertionSort ltB d2 A B := ⟨_, rfl⟩
                have h5 : (if (true && true && decide ((if Sort.Hint.decreasing = .decreasing then Sort.Hint.increasing else Sort.Hint.decreasing) = .increasing)) = true then Sort.partialInsertionSort ltB d2 A B else (d2, false)) = pi := by rw [hpi]; simp
                have HZ3 : Hid (pi.1.size = n) := by rw [hpi]; exact (pinS_size A B d2).trans (unhide HZ2)
                have HR := pdq_round dk A B lim true true (by omega) hl0 d1 d2 l1 p pv _ pi hd1 hl1 hc h3 h4 h5 (unhide HPB).1 (unhide HPB).2 (by rw [unhide HZ3]; exact (unhide HAB).2.1)
                rw [unhide HO] at HR
                rw [← hpi] at KS
                obtain ⟨d3, bb⟩ := pi
                dsimp only at KS HZ3 HR
                cases bb with
                | true =>
                  rw [if_pos rfl] at HR
                  have HEN := hide HR
                  clear h3 h4 h5 hpi hc hd1 hl1 hcp HR HO hl0 h12
                  go_wp2_with (first
                    | (go_at_call 60; refine (unhide KS).mono ?_; rintro e wp2 ⟨rfl, HQ⟩; replace HQ := hide ((unhide HS).then HQ); clear KS)
                    | fail)
                  go_returns
                  rw [unhide HEN]
                  exact ⟨rfl, unhide HQ, unhide HZ3⟩
                | false =>
                  rw [if_neg (by simp)] at HR
                  have HT := hide HR.symm
                  clear h3 h4 h5 hpi hc hd1 hl1 hcp HR HO hl0 h12
                  go_wp2_with (first
                    | (go_at_call 60; refine (unhide KS).mono ?_; rintro e wp2 ⟨rfl, HQ⟩; replace HQ := hide ((unhide HS).then HQ); clear KS)
                    | fail)
                  clear HS HZ2
                  have HS := HQ
                  clear HQ
                  first | rw [unhide HPV] | skip

                  as_aux_lemma =>
                    have hpvb : (pv : Int) ≤ 65536 := by have := unhide HPB; omega
                    have hzp : pv < d3.size := by rw [unhide HZ3]; have := unhide HPB; have := unhide HAB; omega
                    by_cases hA0 : A > 0
                    · have hA0i : (A : Int) > 0 := by omega
                      have hza : A - 1 < d3.size := by rw [unhide HZ3]; have := unhide HPB; have := unhide HAB; omega
                      obtain ⟨c1, f1⟩ := (unhide HS).rw'.cell (A - 1) hza
                      obtain ⟨c2, f2⟩ := (unhide HS).rw'.cell pv hzp
                      have ix1 := unhide HI (A - 1) (by rw [unhide HZ3] at hza; exact hza)
                      have ix2 := unhide HI pv (by rw [unhide HZ3] at hzp; exact hzp)
                      have ix3 := ix1
                      rw [show ((A - 1 : Nat) : Int) = (A : Int) - 1 by omega] at ix3
                      obtain ⟨y1, hy1⟩ : ∃ y, y = d3[A - 1]! := ⟨_, rfl⟩
                      obtain ⟨y2, hy2⟩ : ∃ y, y = d3[pv]! := ⟨_, rfl⟩
                      rw [← hy1] at c1
                      rw [← hy2] at c2
                      have HY1 := hide hy1.symm
                      have HY2 := hide hy2.symm
                      clear hy1 hy2 hza hzp
                      cases hls : ltB y1 y2 with
                      | false =>
                        have HLS := hide (fun w => unhide HL y1 y2 w)
                        rw [hls] at HLS
                        have hcond : (decide (A > 0) && !ltB d3[A - 1]! d3[pv]!) = true := by rw [unhide HY1, unhide HY2, hls, decide_eq_true hA0]; rfl
                        clear hls
                        go_quiet (first | exact Calls.quiet_of_same (unhide HLS _) | exact quiet_any (unhide HLS _) | fail)
                        have HS9 := hide (show So u _ g t N d3 from (unhide HS).drewN nq)
                        clear HS c1 c2 f1 f2 ix1 ix2 ix3 HLS HY1 HY2
                        have HS := HS9
                        clear HS9
                        have HTQ := unhide HT
                        unfold pdT at HTQ
                        rw [if_pos hcond] at HTQ
                        have KE := hide (fun w (hr : Rw w g t N d3) => kPeq g c A B pv n N t d3 w hr (unhide HZ3).symm (unhide HPB).1 (unhide HPB).2 (unhide HAB).2.1 (by omega))
                        have f1 := peqS_facts A B pv d3 (by omega)
                        generalize Sort.partitionEqual ltB d3 A B pv = r at *
                        obtain ⟨mid, d4⟩ := r
                        dsimp only at KE f1 HTQ
                        have HO4 := hide HTQ
                        have HZ4 : Hid (d4.size = n) := f1.2.2.trans (unhide HZ3)
                        have HMI : Hid (A < mid ∧ mid ≤ B) := ⟨f1.1, f1.2.1⟩
                        have hmb : (mid : Int) ≤ 65536 := by omega
                        have HAB4 : Hid (mid ≤ B ∧ B ≤ n ∧ B - mid ≤ m) := by have := unhide HAB; exact ⟨by omega, by omega, by omega⟩
                        clear HTQ f1 hcond HT
                        go_wp2_with (first
                          | (go_at_call 62; refine (unhide KE _ (unhide HS).rw').mono ?_; rintro e wq ⟨rfl, HQ⟩; replace HQ := hide ((unhide HS).then HQ); clear KE)
                          | fail)
                        go_roundw
                        case rel => exact ⟨mid, B, l1, true, true, d4, by first | rfl | go_num, by first | rfl | go_num, by first | rfl | go_num, by first | rfl | (congr 1) | simp, by first | rfl | simp, hmb, hB, hl1b, HAB4, HZ4, HQ, HO4⟩
                        case measure => have := unhide HMI; simp [intOf]; omega
                      | true =>
                        have HLS := hide (fun w => unhide HL y1 y2 w)
                        rw [hls] at HLS
                        have hcond : ¬ (decide (A > 0) && !ltB d3[A - 1]! d3[pv]!) = true := by rw [unhide HY1, unhide HY2, hls]; simp
                        clear hls
                        go_quiet (first | exact Calls.quiet_of_same (unhide HLS _) | exact quiet_any (unhide HLS _) | fail)
                        have HS9 := hide (show So u _ g t N d3 from (unhide HS).drewN nq)
                        clear HS c1 c2 f1 f2 ix1 ix2 ix3 HLS HY1 HY2
                        have HS := HS9
                        clear HS9
                        have HTQ := unhide HT
                        unfold pdT at HTQ
                        rw [if_neg hcond] at HTQ
                        have KP := hide (fun w (hr : Rw w g t N d3) => kPart g c A B pv n N t d3 w hr (unhide HZ3).symm (unhide HPB).1 (unhide HPB).2 (unhide HAB).2.1 (by omega))
                        have f1 := partS_facts A B pv d3 (unhide HPB).1 (unhide HPB).2 (by rw [unhide HZ3]; exact (unhide HAB).2.1)
                        generalize Sort.partition ltB d3 A B pv = r at *
                        obtain ⟨mid, ap, d4⟩ := r
                        dsimp only at KP f1 HTQ
                        have HZ4 : Hid (d4.size = n) := f1.2.2.trans (unhide HZ3)
                        have HMI : Hid (A ≤ mid ∧ mid < B) := ⟨f1.1, f1.2.1⟩
                        have hmb : (mid : Int) ≤ 65536 := by omega
                        obtain ⟨lft, hlft⟩ : ∃ x, x = mid - A := ⟨_, rfl⟩
                        obtain ⟨rgt, hrgt⟩ : ∃ x, x = B - mid := ⟨_, rfl⟩
                        obtain ⟨T, hT⟩ : ∃ T, T = L / 8 := ⟨_, rfl⟩
                        have hT2 : T = (B - A) / 8 := by rw [hT, unhide HLL]
                        have hq8 : (L : Int).tdiv 8 = (T : Int) := by rw [Int.tdiv_eq_ediv_of_nonneg (by omega)]; omega
                        have hlfi : (mid : Int) - (A : Int) = (lft : Int) := by omega
                        have hrgi : (B : Int) - (mid : Int) = (rgt : Int) := by omega
                        have hlfb : (lft : Int) ≤ 65536 := by omega
                        have hrgb : (rgt : Int) ≤ 65536 := by omega
                        have hTb : (T : Int) ≤ 65536 := by omega
                        obtain ⟨m1, hm1⟩ : ∃ m1, m1 = mid + 1 := ⟨_, rfl⟩
                        have HM1 : Hid ((mid : Int) + 1 = ((mid + 1 : Nat) : Int)) := by show _ = _; omega
                        have HMW : Hid (wrap64 ((mid : Int) + 1) = ((mid + 1 : Nat) : Int)) := by show _ = _; simp only [wrap64]; omega
                        clear hT f1 hcond HT hm1
                        by_cases hcl : lft < rgt
                        · have hcmp : (lft : Int) < (rgt : Int) := by omega
                          have HIHx := hide (fun w (hr : Rw w g t N d4) => unhide HIH (A) (mid) l1 d4 w (by have := unhide HMI; have := unhide HAB; omega) hr (unhide HZ4).symm (by have := unhide HMI; omega) (by have := unhide HMI; have := unhide HAB; omega) (by omega))
                          have HO5 : Hid (Sort.pdq ltB (Sort.pdq ltB d4 (A) (mid) l1 true true) (mid + 1) (B) l1 (decide (lft ≥ T)) ap = Sort.pdq ltB d a b limit true true) := by
                            show _ = _
                            have q := HTQ
                            rw [if_pos (by omega : mid - A < B - mid)] at q
                            rw [← hT2, ← hlft] at q
                            exact q
                          obtain ⟨d5, hd5⟩ : ∃ d5, d5 = Sort.pdq ltB d4 (A) (mid) l1 true true := ⟨_, rfl⟩
                          rw [← hd5] at HIHx HO5
                          have hnm : ((mid + 1 : Nat) : Int) ≤ 65536 := by have := unhide HMI; omega
                          have hnm2 : ((B : Nat) : Int) ≤ 65536 := by have := unhide HMI; omega
                          have HNA := hide hnm
                          have HNB := hide hnm2
                          have HAB5 : Hid (mid + 1 ≤ B ∧ B ≤ n ∧ B - (mid + 1) ≤ m) := by have := unhide HAB; have := unhide HMI; exact ⟨by omega, by omega, by omega⟩
                          clear HTQ hlft hrgt hT2 hd5 hnm hnm2 hcl
                          go_wp2_with (first
                            | (go_at_call 63; refine (unhide KP _ (unhide HS).rw').mono ?_; rintro e wq ⟨rfl, HQ⟩; replace HQ := hide ((unhide HS).then HQ); clear KP)
                            | fail)

                          refine (unhide HIHx _ (unhide HQ).rw').mono ?_
                          rintro e wq2 ⟨he, HR, hz5⟩
                          obtain rfl := he
                          replace HR := hide ((unhide HQ).then HR)
                          have HZ5 := hide hz5
                          clear hz5 HIHx
                          go_wp2
                          go_roundw
                          case rel => exact ⟨mid + 1, B, l1, (decide (lft ≥ T)), ap, d5, by first | rfl | go_num, by first | rfl | go_num, by first | rfl | go_num, by first | rfl | (congr 1) | simp, by first | rfl | simp, unhide HNA, unhide HNB, hl1b, HAB5, HZ5, HR, HO5⟩
                          case measure => have := unhide HMI; have := unhide HAB; simp [intOf]; omega
                        · have hcmp : ¬ (lft : Int) < (rgt : Int) := by omega
                          have HIHx := hide (fun w (hr : Rw w g t N d4) => unhide HIH (mid + 1) (B) l1 d4 w (by have := unhide HMI; have := unhide HAB; omega) hr (unhide HZ4).symm (by have := unhide HMI; omega) (by have := unhide HMI; have := unhide HAB; omega) (by omega))
                          have HO5 : Hid (Sort.pdq ltB (Sort.pdq ltB d4 (mid + 1) (B) l1 true true) (A) (mid) l1 (decide (rgt ≥ T)) ap = Sort.pdq ltB d a b limit true true) := by
                            show _ = _
                            have q := HTQ
                            rw [if_neg (by omega : ¬ mid - A < B - mid)] at q
                            rw [← hT2, ← hrgt] at q
                            exact q
                          obtain ⟨d5, hd5⟩ : ∃ d5, d5 = Sort.pdq ltB d4 (mid + 1) (B) l1 true true := ⟨_, rfl⟩
                          rw [← hd5] at HIHx HO5
                          have hnm : ((A : Nat) : Int) ≤ 65536 := by have := unhide HMI; omega
                          have hnm2 : ((mid : Nat) : Int) ≤ 65536 := by have := unhide HMI; omega
                          have HNA := hide hnm
                          have HNB := hide hnm2
                          have HAB5 : Hid (A ≤ mid ∧ mid ≤ n ∧ mid - (A) ≤ m) := by have := unhide HAB; have := unhide HMI; exact ⟨by omega, by omega, by omega⟩
                          clear HTQ hlft hrgt hT2 hd5 hnm hnm2 hcl
                          go_wp2_with (first
                            | (go_at_call 63; refine (unhide KP _ (unhide HS).rw').mono ?_; rintro e wq ⟨rfl, HQ⟩; replace HQ := hide ((unhide HS).then HQ); clear KP)
                            | fail)
                          first | rw [unhide HM1] | rw [unhide HMW] | skip
                          refine (unhide HIHx _ (unhide HQ).rw').mono ?_
                          rintro e wq2 ⟨he, HR, hz5⟩
                          obtain rfl := he
                          replace HR := hide ((unhide HQ).then HR)
                          have HZ5 := hide hz5
                          clear hz5 HIHx
                          go_wp2
                          go_roundw
                          case rel => exact ⟨A, mid, l1, (decide (rgt ≥ T)), ap, d5, by first | rfl | go_num, by first | rfl | go_num, by first | rfl | go_num, by first | rfl | (congr 1) | simp, by first | rfl | simp, unhide HNA, unhide HNB, hl1b, HAB5, HZ5, HR, HO5⟩
                          case measure => have := unhide HMI; have := unhide HAB; simp [intOf]; omega
                    · have hA0i : ¬ (A : Int) > 0 := by omega
                      have hA0d : decide (0 < A) = false := decide_eq_false hA0
                      have hcond : ¬ (decide (A > 0) && !ltB d3[A - 1]! d3[pv]!) = true := by rw [decide_eq_false hA0]; simp
                      go_quiet (first | fail)
                      have HS9 := hide (show So u _ g t N d3 from (unhide HS).drewN nq)
                      clear HS hzp
                      have HS := HS9
                      clear HS9
                      have HTQ := unhide HT
                      unfold pdT at HTQ
                      rw [if_neg hcond] at HTQ
                      have KP := hide (fun w (hr : Rw w g t N d3) => kPart g c A B pv n N t d3 w hr (unhide HZ3).symm (unhide HPB).1 (unhide HPB).2 (unhide HAB).2.1 (by omega))
                      have f1 := partS_facts A B pv d3 (unhide HPB).1 (unhide HPB).2 (by rw [unhide HZ3]; exact (unhide HAB).2.1)
                      generalize Sort.partition ltB d3 A B pv = r at *
                      obtain ⟨mid, ap, d4⟩ := r
                      dsimp only at KP f1 HTQ
                      have HZ4 : Hid (d4.size = n) := f1.2.2.trans (unhide HZ3)
                      have HMI : Hid (A ≤ mid ∧ mid < B) := ⟨f1.1, f1.2.1⟩
                      have hmb : (mid : Int) ≤ 65536 := by omega
                      obtain ⟨lft, hlft⟩ : ∃ x, x = mid - A := ⟨_, rfl⟩
                      obtain ⟨rgt, hrgt⟩ : ∃ x, x = B - mid := ⟨_, rfl⟩
                      obtain ⟨T, hT⟩ : ∃ T, T = L / 8 := ⟨_, rfl⟩
                      have hT2 : T = (B - A) / 8 := by rw [hT, unhide HLL]
                      have hq8 : (L : Int).tdiv 8 = (T : Int) := by rw [Int.tdiv_eq_ediv_of_nonneg (by omega)]; omega
                      have hlfi : (mid : Int) - (A : Int) = (lft : Int) := by omega
                      have hrgi : (B : Int) - (mid : Int) = (rgt : Int) := by omega
                      have hlfb : (lft : Int) ≤ 65536 := by omega
                      have hrgb : (rgt : Int) ≤ 65536 := by omega
                      have hTb : (T : Int) ≤ 65536 := by omega
                      obtain ⟨m1, hm1⟩ : ∃ m1, m1 = mid + 1 := ⟨_, rfl⟩
                      have HM1 : Hid ((mid : Int) + 1 = ((mid + 1 : Nat) : Int)) := by show _ = _; omega
                      have HMW : Hid (wrap64 ((mid : Int) + 1) = ((mid + 1 : Nat) : Int)) := by show _ = _; simp only [wrap64]; omega
                      clear hT f1 hcond HT hm1
                      by_cases hcl : lft < rgt
                      · have hcmp : (lft : Int) < (rgt : Int) := by omega
                        have HIHx := hide (fun w (hr : Rw w g t N d4) => unhide HIH (A) (mid) l1 d4 w (by have := unhide HMI; have := unhide HAB; omega) hr (unhide HZ4).symm (by have := unhide HMI; omega) (by have := unhide HMI; have := unhide HAB; omega) (by omega))
                        have HO5 : Hid (Sort.pdq ltB (Sort.pdq ltB d4 (A) (mid) l1 true true) (mid + 1) (B) l1 (decide (lft ≥ T)) ap = Sort.pdq ltB d a b limit true true) := by
                          show _ = _
                          have q := HTQ
                          rw [if_pos (by omega : mid - A < B - mid)] at q
                          rw [← hT2, ← hlft] at q
                          exact q
                        obtain ⟨d5, hd5⟩ : ∃ d5, d5 = Sort.pdq ltB d4 (A) (mid) l1 true true := ⟨_, rfl⟩
                        rw [← hd5] at HIHx HO5
                        have hnm : ((mid + 1 : Nat) : Int) ≤ 65536 := by have := unhide HMI; omega
                        have hnm2 : ((B : Nat) : Int) ≤ 65536 := by have := unhide HMI; omega
                        have HNA := hide hnm
                        have HNB := hide hnm2
                        have HAB5 : Hid (mid + 1 ≤ B ∧ B ≤ n ∧ B - (mid + 1) ≤ m) := by have := unhide HAB; have := unhide HMI; exact ⟨by omega, by omega, by omega⟩
                        clear HTQ hlft hrgt hT2 hd5 hnm hnm2 hcl
                        go_wp2_with (first
                          | (go_at_call 63; refine (unhide KP _ (unhide HS).rw').mono ?_; rintro e wq ⟨rfl, HQ⟩; replace HQ := hide ((unhide HS).then HQ); clear KP)
                          | fail)

                        refine (unhide HIHx _ (unhide HQ).rw').mono ?_
                        rintro e wq2 ⟨he, HR, hz5⟩
                        obtain rfl := he
                        replace HR := hide ((unhide HQ).then HR)
                        have HZ5 := hide hz5
                        clear hz5 HIHx
                        go_wp2
                        go_roundw
                        case rel => exact ⟨mid + 1, B, l1, (decide (lft ≥ T)), ap, d5, by first | rfl | go_num, by first | rfl | go_num, by first | rfl | go_num, by first | rfl | (congr 1) | simp, by first | rfl | simp, unhide HNA, unhide HNB, hl1b, HAB5, HZ5, HR, HO5⟩
                        case measure => have := unhide HMI; have := unhide HAB; simp [intOf]; omega
                      · have hcmp : ¬ (lft : Int) < (rgt : Int) := by omega
                        have HIHx := hide (fun w (hr : Rw w g t N d4) => unhide HIH (mid + 1) (B) l1 d4 w (by have := unhide HMI; have := unhide HAB; omega) hr (unhide HZ4).symm (by have := unhide HMI; omega) (by have := unhide HMI; have := unhide HAB; omega) (by omega))
                        have HO5 : Hid (Sort.pdq ltB (Sort.pdq ltB d4 (mid + 1) (B) l1 true true) (A) (mid) l1 (decide (rgt ≥ T)) ap = Sort.pdq ltB d a b limit true true) := by
                          show _ = _
                          have q := HTQ
                          rw [if_neg (by omega : ¬ mid - A < B - mid)] at q
                          rw [← hT2, ← hrgt] at q
                          exact q
                        obtain ⟨d5, hd5⟩ : ∃ d5, d5 = Sort.pdq ltB d4 (mid + 1) (B) l1 true true := ⟨_, rfl⟩
                        rw [← hd5] at HIHx HO5
                        have hnm : ((A : Nat) : Int) ≤ 65536 := by have := unhide HMI; omega
                        have hnm2 : ((mid : Nat) : Int) ≤ 65536 := by have := unhide HMI; omega
                        have HNA := hide hnm
                        have HNB := hide hnm2
                        have HAB5 : Hid (A ≤ mid ∧ mid ≤ n ∧ mid - (A) ≤ m) := by have := unhide HAB; have := unhide HMI; exact ⟨by omega, by omega, by omega⟩
                        clear HTQ hlft hrgt hT2 hd5 hnm hnm2 hcl
                        go_wp2_with (first
                          | (go_at_call 63; refine (unhide KP _ (unhide HS).rw').mono ?_; rintro e wq ⟨rfl, HQ⟩; replace HQ := hide ((unhide HS).then HQ); clear KP)
                          | fail)
                        first | rw [unhide HM1] | rw [unhide HMW] | skip
                        refine (unhide HIHx _ (unhide HQ).rw').mono ?_
                        rintro e wq2 ⟨he, HR, hz5⟩
                        obtain rfl := he
                        replace HR := hide ((unhide HQ).then HR)
                        have HZ5 := hide hz5
                        clear hz5 HIHx
                        go_wp2
                        go_roundw
                        case rel => exact ⟨A, mid, l1, (decide (rgt ≥ T)), ap, d5, by first | rfl | go_num, by first | rfl | go_num, by first | rfl | go_num, by first | rfl | (congr 1) | simp, by first | rfl | simp, unhide HNA, unhide HNB, hl1b, HAB5, HZ5, HR, HO5⟩
                        case measure => have := unhide HMI; have := unhide HAB; simp [intOf]; omega

end Go.Proofs.Ytopabadnbelegaa.K
