/- CancelSpreads: the walk. -/
import Derived.Test.YtajbkgcgmkkpiaaCns
namespace Go.Proofs.Ytajbkgcgmkkpiaa.C
open Go.RowKit Go.Lib
set_option maxRecDepth 100000 in
set_option maxHeartbeats 4000000 in
theorem spreads_walk (l : List Sp) (so : Option Addr) (cs : Nat) (W : World) (hl : At0 SR W l so cs) :
    Calls Try.prog 4 #[.slice so l.length cs] W fun e w' => e = .returned (.bool true) ∧ Below W.heap.size W w' := by
  have HL := hide hl
  obtain ⟨L, hL⟩ : ∃ L, L = l.length := ⟨_, rfl⟩
  rw [← hL]
  have HLL := hide hL
  have hmix : Try.prog.follows .mixedOrders = true := by kernel_rfl
  clear hl hL
  go_enter Try.func4, Try.ntmps4
  go_wp2
  go_loopw [4, 5, 6, 7] (fun s4 s5 s6 s7 wr => ∃ (c m n d ca cb ce : Nat) (ao bo eo : Option Addr) (D : List (Nat × Int)) (G : Geo) (Z : Nat → Dy), c ≤ 60 ∧ s4 = .slice ao m ca ∧ s5 = .slice bo m cb ∧ s6 = .slice eo d ce ∧ s7 = .int .i64 (c : Int) ∧ Hid (m = n + 1 ∧ d = D.length ∧ n ≤ c ∧ d ≤ c ∧ SS W wr G Z n D ao bo eo ca cb ce)) (fun _ _ _ s7 _ => 60 - (intOf s7).toNat)
  case atStart =>
    have hb : Below W.heap.size W ((W.alloc (.cells #[.pointer none] 34)).alloc (.cells #[.int .i64 0] 3)) := ((Below.refl _ _).alloc (Nat.le_refl _) _).alloc (by simp) _
    refine ⟨0, 1, 0, 0, 1, 1, 0, some ⟨W.heap.size, 0, none⟩, some ⟨W.heap.size + 1, 0, none⟩, none, [], ⟨fun _ => 0, fun _ => 0, fun _ => 0, fun _ => 0, fun _ => 0⟩, fun _ => dy0, by decide, rfl, rfl, rfl, rfl, rfl, rfl, Nat.le_refl _, Nat.le_refl _, ⟨⟨⟨⟨Nat.le_refl _, fun j hj => absurd hj (by omega), fun j hj => absurd hj (by omega), fun j hj => absurd hj (by omega), fun j hj => absurd hj (by omega), fun i j hi => absurd hi (by omega), fun i j hi => absurd hi (by omega), fun i j hi => absurd hi (by omega), fun j hj => absurd hj (by omega), fun j hj => absurd hj (by omega)⟩, fun j hj => absurd hj (by omega)⟩, ⟨fun j hj => absurd hj (by omega), fun j hj => absurd hj (by omega), fun j hj => absurd hj (by omega), fun j hj => absurd hj (by omega), fun j hj => absurd hj (by omega)⟩, ?_, ?_, S.Rec.Own.none _ _, hb⟩, fun j hj => absurd hj (by omega), fun e he => by cases he⟩⟩
    · exact ⟨rfl, .inr ⟨W.heap.size, 1, #[.pointer none], rfl, Nat.le_refl _, heapOld _ (heap_alloc_new W _), Nat.le_refl _, by decide, rfl, rfl⟩⟩
    · refine ⟨rfl, .inr ⟨W.heap.size + 1, 1, #[.int .i64 0], rfl, by omega, ?_, Nat.le_refl _, by decide, rfl, rfl⟩⟩
      have := heap_alloc_new (W.alloc (.cells #[.pointer none] 34)) (.cells #[.int .i64 0] 3)
      rw [World.size_alloc] at this
      exact this
  case round =>
    obtain ⟨c, m, n, d, ca, cb, ce, ao, bo, eo, D, G, Z, hc60, rfl, rfl, rfl, rfl, HS⟩ := hrel
    by_cases hlt : c < L ∧ c < 60
    · obtain ⟨h1, h2⟩ := hlt
      have h1i : (c : Int) < (L : Int) := by omega
      have h2i : (c : Int) < 60 := by omega
      obtain ⟨hm, hd, hnc, hdc, hs⟩ := unhide HS
      have hcl : c < l.length := by rw [← unhide HLL]; exact h1
      have hsat := (unhide HL).below hs.rs.bl
      obtain ⟨g, o, rfl, hx0, hx1, hx2⟩ := sp_cells hsat hcl
      have hsix := fun w => SR.ix (P := Try.prog) g o L cs c h1 w
      generalize hsp : l[c] = sp at hx0 hx1 hx2
      obtain ⟨kd, on, why⟩ := sp
      simp only at hx0 hx1 hx2
      -- the token that is meant
      obtain ⟨k, hk⟩ : ∃ k : Nat, on % ((n : Int) + 1) = (k : Int) := ⟨(on % ((n : Int) + 1)).toNat, by have := Int.emod_nonneg on (show (n : Int) + 1 ≠ 0 by omega); omega⟩
      have hkn : k ≤ n := by have := Int.emod_lt_of_pos on (show (0 : Int) < (n : Int) + 1 by omega); omega
      have HSEAT := hide (kSeat on n (by omega))
      rw [hk] at HSEAT
      have hwm : wrap64 ((m : Int) - 1) = (n : Int) := by simp only [wrap64]; omega
      obtain ⟨U, hU⟩ : ∃ U, U = wr.alloc (.cells #[.int .i64 kd, .int .i64 on, .int .i64 why] 27) := ⟨_, rfl⟩
      have hbU : Below wr.heap.size wr U := by rw [hU]; exact (Below.refl _ _).alloc (Nat.le_refl _) _
      have hxU : U.heap[wr.heap.size]? = some (.cells #[.int .i64 kd, .int .i64 on, .int .i64 why] 27 (0, 0)) := by rw [hU]; exact heap_alloc_new _ _
      have hsU := hs.below hbU
      obtain ⟨ga, rfl, hca, hcap⟩ := own_get hsU.rs.al (i := k) (by rw [allL_len]; omega)
      have hca0 := hca 0 _ rfl
      rw [allL_get] at hca0
      have hcak : U.cell? ⟨ga, k, none⟩ = some (tkP G k) := by
        have e : k * TR.n + 0 = k := by show k * 1 + 0 = k; omega
        rw [e] at hca0
        exact hca0
      have hkix := fun w => TR.ix (P := Try.prog) ga 0 m ca k (by omega) w
      have hkm : (k : Int) < (m : Int) := by omega
      have HWHY := hide (kWhyN hsU.rs.fo hkn)
      have hx0U := (S.box3 hxU).1
      have hx1U := (S.box3 hxU).2.1
      have hx2U := (S.box3 hxU).2.2
      have HM := hide hm
      have HD := hide hd
      have HNC := hide hnc
      have HDC := hide hdc
      have HSU := hide hsU
      have HML := hide (show m = (allL G n).length by rw [allL_len]; exact hm)
      have HMO2 := hide (show m = (overL G.up n).length by rw [overL_len]; exact hm)
      have HB8 := fun x : Option Nat => hide (show ((allL G n).length + [x].length) * 8 ≤ 140737488355328 by rw [allL_len]; simp; omega)
      have HB9 := fun x : Int => hide (show ((overL G.up n).length + [x].length) * 8 ≤ 140737488355328 by rw [overL_len]; simp; omega)
      have HB7 := fun x : Nat × Int => hide (show (D.length + [x].length) * 16 ≤ 140737488355328 by rw [← hd]; simp; omega)
      have H60 := hide hc60
      have HKN := hide hkn
      have HU := hide hU
      have HBU := hide hbU
      have HXU := hide hxU
      have H2 := hide h2
      clear HS hm hd hnc hdc hs hcl hsat hsp hc60 h1 h2 hk hkn hU hbU hxU hsU hca hca0 hcap
      go_upto_block 2 with (first
        | (go_at_call 17; rw [← unhide HU]; refine (unhide HSEAT _).mono ?_; rintro e w' ⟨rfl, hw⟩; obtain rfl := hw.symm; clear HSEAT)
        | (go_at_call 15; refine (unhide HWHY).mono ?_; rintro e w' ⟨rfl, hw⟩; obtain rfl := hw.symm; clear HWHY))
      go_cut [4, 5, 6] (fun s4 s5 s6 wx => ∃ (m2 n2 d2 ca2 cb2 ce2 : Nat) (ao2 bo2 eo2 : Option Addr) (D2 : List (Nat × Int)) (G2 : Geo) (Z2 : Nat → Dy), s4 = .slice ao2 m2 ca2 ∧ s5 = .slice bo2 m2 cb2 ∧ s6 = .slice eo2 d2 ce2 ∧ Hid (m2 = n2 + 1 ∧ d2 = D2.length ∧ n2 ≤ c + 1 ∧ d2 ≤ c + 1 ∧ SS W wx G2 Z2 n2 D2 ao2 bo2 eo2 ca2 cb2 ce2))
      case first =>
        by_cases hk1 : kd = 1
        · subst hk1
          have HNEW := hide (kNewN (unhide HSU).rs.fo (unhide HSU).rs.wf (unhide HSU).rs.bl.size)
          go_wp2_with (first
            | (go_at_call 12; refine (unhide HNEW).mono ?_; rintro e X ⟨tb, kb, lb, ch, Z', rfl, hmo⟩; have HMO := hide hmo; have HR2 := hide (((unhide HSU).rs.more hmo).below ((Below.refl _ _).alloc (Nat.le_refl _) (.cells #[.pointer (some ⟨tb, 0, none⟩)] 34))); have HAT := hide (oneT X tb); clear hmo HNEW)
            | (at_builtin; (with_reducible refine wpList_putT (by rfl) (.tmp 51) (.tmp 53) (by rfl) (some 54) (by rfl) W.heap.size (allL G n) [some tb] m 1 (unhide HML) rfl (some ⟨ga, 0, none⟩) (some ⟨X.heap.size, 0, none⟩) ca 1 (by with_unfolding_all rfl) (by with_unfolding_all rfl) (unhide HR2).al (unhide HAT) (unhide (HB8 (some tb))) (unhide HR2).bl.size ?_); intro x4 n4 c4 W4 HP4; simp only [Act.put, List.setIfInBounds_toArray, List.set_cons_zero, List.set_cons_succ]; have HR3 := hide (((unhide HR2).putT (unhide HP4)).below ((Below.refl _ _).alloc (Nat.le_refl _) (.cells #[.int .i64 0] 3))); have HAI := hide (oneI W4 0))
            | (at_builtin; (with_reducible refine wpList_putI (by rfl) (.tmp 55) (.tmp 56) (by rfl) (some 57) (by rfl) W.heap.size (overL G.up n) [0] m 1 (unhide HMO2) rfl bo (some ⟨W4.heap.size, 0, none⟩) cb 1 (by with_unfolding_all rfl) (by with_unfolding_all rfl) (unhide HR3).ov (unhide HAI) (unhide (HB9 0)) (unhide HR3).bl.size ?_); intro x5 n5 c5 W5 HP5; simp only [Act.put, List.setIfInBounds_toArray, List.set_cons_zero, List.set_cons_succ]; have HR4 := hide ((unhide HR3).putI (unhide HP5)))
            | fail)
          go_meet
          have hr4 := unhide HR4
          have hn4 := (unhide HP4).len
          have hn5 := (unhide HP5).len
          have hev := (unhide HSU).more_ev (Nat.zero_le n) (unhide HMO)
          have hnc := unhide HNC
          have hdc := unhide HDC
          have hM := unhide HM
          rw [List.length_append, allL_len] at hn4
          rw [List.length_append, overL_len] at hn5
          have e45 : n5 = n4 := by rw [hn4, hn5]; rfl
          rw [allL_more G n tb kb lb ch 0, show overL G.up n ++ [0] = overL (G.ext n tb kb lb ch 0).up (n + 1) by rw [← overL_more G.up _ n (fun j hj => ext_up hj), ext_self.2.2.2.2]; rfl] at hr4
          exact ⟨n4, n + 1, d, c4, c5, ce, x4, x5, eo, D, G.ext n tb kb lb ch 0, Z', rfl, by rw [e45], rfl, hide ⟨by rw [hn4]; rfl, unhide HD, by omega, by omega, hr4, hev.1, hev.2⟩⟩
        · have hk1b : (kd == 1) = false := by simp [hk1]
          by_cases hk2 : kd = 2
          · subst hk2
            have HUND := hide (kUnderN (unhide HSU).rs.fo (unhide HSU).rs.wf (unhide HSU).rs.bl.size (by have := unhide HNC; have := unhide H60; omega) (unhide HKN))
            go_wp2_with (first
              | (go_at_call 13; refine (unhide HUND).mono ?_; rintro e X ⟨tb, kb, lb, ch, Z', rfl, hmo⟩; have HMO := hide hmo; have HR2 := hide (((unhide HSU).rs.more hmo).below ((Below.refl _ _).alloc (Nat.le_refl _) (.cells #[.pointer (some ⟨tb, 0, none⟩)] 34))); have HAT := hide (oneT X tb); clear hmo HUND)
              | (at_builtin; (with_reducible refine wpList_putT (by rfl) (.tmp 60) (.tmp 66) (by rfl) (some 67) (by rfl) W.heap.size (allL G n) [some tb] m 1 (unhide HML) rfl (some ⟨ga, 0, none⟩) (some ⟨X.heap.size, 0, none⟩) ca 1 (by with_unfolding_all rfl) (by with_unfolding_all rfl) (unhide HR2).al (unhide HAT) (unhide (HB8 (some tb))) (unhide HR2).bl.size ?_); intro x4 n4 c4 W4 HP4; simp only [Act.put, List.setIfInBounds_toArray, List.set_cons_zero, List.set_cons_succ]; have HR3 := hide (((unhide HR2).putT (unhide HP4)).below ((Below.refl _ _).alloc (Nat.le_refl _) (.cells #[.int .i64 (k : Int)] 3))); have HAI := hide (oneI W4 (k : Int)))
              | (at_builtin; (with_reducible refine wpList_putI (by rfl) (.tmp 68) (.tmp 70) (by rfl) (some 71) (by rfl) W.heap.size (overL G.up n) [(k : Int)] m 1 (unhide HMO2) rfl bo (some ⟨W4.heap.size, 0, none⟩) cb 1 (by with_unfolding_all rfl) (by with_unfolding_all rfl) (unhide HR3).ov (unhide HAI) (unhide (HB9 (k : Int))) (unhide HR3).bl.size ?_); intro x5 n5 c5 W5 HP5; simp only [Act.put, List.setIfInBounds_toArray, List.set_cons_zero, List.set_cons_succ]; have HR4 := hide ((unhide HR3).putI (unhide HP5)))
              | fail)
            go_meet
            have hr4 := unhide HR4
            have hn4 := (unhide HP4).len
            have hn5 := (unhide HP5).len
            have hev := (unhide HSU).more_ev (unhide HKN) (unhide HMO)
            have hnc := unhide HNC
            have hdc := unhide HDC
            have hM := unhide HM
            rw [List.length_append, allL_len] at hn4
            rw [List.length_append, overL_len] at hn5
            have e45 : n5 = n4 := by rw [hn4, hn5]; rfl
            rw [allL_more G n tb kb lb ch k, show overL G.up n ++ [(k : Int)] = overL (G.ext n tb kb lb ch k).up (n + 1) by rw [← overL_more G.up _ n (fun j hj => ext_up hj), ext_self.2.2.2.2]] at hr4
            exact ⟨n4, n + 1, d, c4, c5, ce, x4, x5, eo, D, G.ext n tb kb lb ch k, Z', rfl, by rw [e45], rfl, hide ⟨by rw [hn4]; rfl, unhide HD, by omega, by omega, hr4, hev.1, hev.2⟩⟩
          · have hk2b : (kd == 2) = false := by simp [hk2]
            by_cases hk3 : kd = 3
            · subst hk3
              have HCAN := hide (kCancelN (unhide HSU).rs.fo (unhide HSU).rs.wf (by have := unhide HNC; have := unhide H60; omega) (unhide HKN) why)
              by_cases hkw : k ≠ 0 ∧ whyN Z k = 0
              · rw [decide_eq_true hkw] at HCAN
                have hkp : (0 : Int) < (k : Int) := by omega
                have hkp2 : (k : Int) > 0 := hkp
                have hw0 : (whyN Z k == 0) = true := by simp [hkw.2]
                have HKW := hide hkw
                clear hkw
                by_cases hwz : why = 0
                · subst hwz
                  go_wp2_with (first
                    | (go_at_call 14; refine (unhide HCAN).mono ?_; rintro e X ⟨Z', rfl, hmo⟩; have HMO := hide hmo; have HR2 := hide (((unhide HSU).rs.cut hmo).below ((Below.refl _ _).alloc (Nat.le_refl _) (.cells #[.int .i64 (k : Int), .int .i64 180] 46))); have HAE := hide (oneE X k 180); clear hmo HCAN)
                    | (at_builtin; (with_reducible refine wpList_putE (by rfl) (.tmp 94) (.tmp 98) (by rfl) (some 99) (by rfl) W.heap.size D [(k, 180)] d 1 (unhide HD) rfl eo (some ⟨X.heap.size, 0, none⟩) ce 1 (by with_unfolding_all rfl) (by with_unfolding_all rfl) (unhide HR2).dn (unhide HAE) (unhide (HB7 (k, 180))) (unhide HR2).bl.size ?_); intro x4 n4 c4 W4 HP4; simp only [Act.put, List.setIfInBounds_toArray, List.set_cons_zero, List.set_cons_succ]; have HR3 := hide ((unhide HR2).putE (unhide HP4)))
                    | fail)
                  go_meet
                  have hev := (unhide HSU).cut_ev (unhide HKW).1 (unhide HKN) (unhide HKW).2 (unhide HMO)
                  have hn4 := (unhide HP4).len
                  have hnc := unhide HNC
                  have hdc := unhide HDC
                  have hD := unhide HD
                  have hl4 : n4 ≤ c + 1 := by rw [hn4, List.length_append, ← hD]; simp; omega
                  exact ⟨m, n, n4, ca, cb, c4, some ⟨ga, 0, none⟩, bo, x4, D ++ [(k, 180)], G, Z', rfl, rfl, rfl, hide ⟨unhide HM, hn4, by omega, hl4, unhide HR3, hev.1, hev.2⟩⟩
                · have hwzb : (why == 0) = false := by simp [hwz]
                  have HWZ := hide hwz
                  go_wp2_with (first
                    | (go_at_call 14; refine (unhide HCAN).mono ?_; rintro e X ⟨Z', rfl, hmo⟩; have HMO := hide hmo; have HR2 := hide (((unhide HSU).rs.cut hmo).below ((Below.refl _ _).alloc (Nat.le_refl _) (.cells #[.int .i64 (k : Int), .int .i64 why] 46))); have HAE := hide (oneE X k why); clear hmo HCAN)
                    | (at_builtin; (with_reducible refine wpList_putE (by rfl) (.tmp 94) (.tmp 98) (by rfl) (some 99) (by rfl) W.heap.size D [(k, why)] d 1 (unhide HD) rfl eo (some ⟨X.heap.size, 0, none⟩) ce 1 (by with_unfolding_all rfl) (by with_unfolding_all rfl) (unhide HR2).dn (unhide HAE) (unhide (HB7 (k, why))) (unhide HR2).bl.size ?_); intro x4 n4 c4 W4 HP4; simp only [Act.put, List.setIfInBounds_toArray, List.set_cons_zero, List.set_cons_succ]; have HR3 := hide ((unhide HR2).putE (unhide HP4)))
                    | fail)
                  go_meet
                  have hev := (unhide HSU).cut_ev (unhide HKW).1 (unhide HKN) (unhide HKW).2 (unhide HMO)
                  rw [show wy why = why from if_neg (unhide HWZ)] at hev
                  have hn4 := (unhide HP4).len
                  have hnc := unhide HNC
                  have hdc := unhide HDC
                  have hD := unhide HD
                  have hl4 : n4 ≤ c + 1 := by rw [hn4, List.length_append, ← hD]; simp; omega
                  exact ⟨m, n, n4, ca, cb, c4, some ⟨ga, 0, none⟩, bo, x4, D ++ [(k, why)], G, Z', rfl, rfl, rfl, hide ⟨unhide HM, hn4, by omega, hl4, unhide HR3, hev.1, hev.2⟩⟩
              · rw [decide_eq_false hkw] at HCAN
                have HKW := hide hkw
                by_cases hk0 : k = 0
                · subst hk0
                  clear hkw
                  go_wp2_with (first
                    | (go_at_call 14; refine (unhide HCAN).mono ?_; rintro e X ⟨Z', rfl, hmo⟩; have HMO := hide hmo; clear hmo HCAN)
                    | fail)
                  go_meet
                  have hnc := unhide HNC
                  have hdc := unhide HDC
                  exact ⟨m, n, d, ca, cb, ce, some ⟨ga, 0, none⟩, bo, eo, D, G, Z', rfl, rfl, rfl, hide ⟨unhide HM, unhide HD, by omega, by omega, (unhide HSU).cut_none (unhide HKW) (unhide HMO)⟩⟩
                · have hkp : (0 : Int) < (k : Int) := by omega
                  have hkp2 : (k : Int) > 0 := hkp
                  have hw0 : (whyN Z k == 0) = false := by
                    have : ¬ whyN Z k = 0 := fun e => hkw ⟨hk0, e⟩
                    simp [this]
                  clear hkw
                  go_wp2_with (first
                    | (go_at_call 14; refine (unhide HCAN).mono ?_; rintro e X ⟨Z', rfl, hmo⟩; have HMO := hide hmo; clear hmo HCAN)
                    | fail)
                  go_meet
                  have hnc := unhide HNC
                  have hdc := unhide HDC
                  exact ⟨m, n, d, ca, cb, ce, some ⟨ga, 0, none⟩, bo, eo, D, G, Z', rfl, rfl, rfl, hide ⟨unhide HM, unhide HD, by omega, by omega, (unhide HSU).cut_none (unhide HKW) (unhide HMO)⟩⟩
            · have hk3b : (kd == 3) = false := by simp [hk3]
              go_wp2_with fail
              go_meet
              have hnc := unhide HNC
              have hdc := unhide HDC
              exact ⟨m, n, d, ca, cb, ce, some ⟨ga, 0, none⟩, bo, eo, D, G, Z, rfl, rfl, rfl, hide ⟨unhide HM, unhide HD, by omega, by omega, unhide HSU⟩⟩
      case rest =>
        obtain ⟨m2, n2, d2, ca2, cb2, ce2, ao2, bo2, eo2, D2, G2, Z2, rfl, rfl, rfl, HC⟩ := hcut
        clear HM HD HML HMO2 HB8 HB9 HB7 HSU HNC HDC HKN HU HBU HXU hx0 hx1 hx2 hx0U hx1U hx2U hcak hkix hkm hwm hsix h1i h2i
        obtain ⟨hm, hd, hnc, hdc, hs⟩ := unhide HC
        have h60 := unhide H60
        have HWD := hide (show wrap64 ((d2 : Int) - 1) = (d2 : Int) - 1 by simp only [wrap64]; omega)
        have HM := hide hm
        have HD := hide hd
        have HNC := hide hnc
        have HDC := hide hdc
        have HS2 := hide hs
        clear hm hd hnc hdc hs h60 HC
        go_wp2
        go_loopw [13] (fun s13 wv => ∃ i : Nat, 1 ≤ i ∧ i ≤ m2 ∧ s13 = .int .i64 (i : Int) ∧ Hid (SS W wv G2 Z2 n2 D2 ao2 bo2 eo2 ca2 cb2 ce2)) (fun s13 _ => m2 - (intOf s13).toNat)
        case atStart => exact ⟨1, Nat.le_refl _, by have := unhide HM; omega, rfl, unhide HS2⟩
        case round =>
          obtain ⟨i, hi1, him, rfl, HV⟩ := hrel
          by_cases hlt2 : i < m2
          · have hlt2i : (i : Int) < (m2 : Int) := by omega
            obtain ⟨q, hq⟩ : ∃ q, i = q + 1 := ⟨i - 1, by omega⟩
            have hqn : q < n2 := by have := unhide HM; omega
            have HQ := hide hq
            have HQN := hide hqn
            have HI1 := hide hi1
            have HIM := hide him
            have HLT := hide hlt2
            have hw60 : i ≤ 61 := by have := unhide HM; have := unhide HNC; have := unhide H60; omega
            have HW60 := hide hw60
            clear hq hqn hi1 him hlt2 hw60
            go_wp2
            go_loopw [14, 15] (fun s14 s15 wu => ∃ j : Nat, j ≤ d2 ∧ s15 = .int .i64 ((j : Int) - 1) ∧ Hid (s14 = .int .i64 (fstW G2.up (D2.drop j) i)) ∧ Hid (SS W wu G2 Z2 n2 D2 ao2 bo2 eo2 ca2 cb2 ce2)) (fun _ s15 _ => (intOf s15 + 1).toNat)
            case atStart =>
              refine ⟨d2, Nat.le_refl _, by rw [unhide HWD], ?_, unhide HV⟩
              rw [List.drop_eq_nil_of_le (by rw [unhide HD]; exact Nat.le_refl _)]
              exact hide rfl
            case round =>
              obtain ⟨j, hj, rfl, H14, HU2⟩ := hrel
              obtain rfl := unhide H14
              cases j with
              | succ p =>
                have hsu := unhide HU2
                have hjp : (((p + 1 : Nat) : Int)) - 1 = (p : Int) := by omega
                rw [hjp]
                have hdr : D2.drop p = D2[p]'(by have := unhide HD; omega) :: D2.drop (p + 1) := List.drop_eq_getElem_cons (by have := unhide HD; omega)
                obtain ⟨ge, rfl, hce, _⟩ := own_get hsu.rs.dn (i := p) (by have := unhide HD; omega)
                have he0 := hce 0 _ rfl
                have he1 := hce 1 _ rfl
                generalize D2[p]'(by have := unhide HD; omega) = ev at he0 he1 hdr
                obtain ⟨eo1, ew1⟩ := ev
                simp only at he0 he1
                have he0' : wr.cell? ⟨ge, p * 2, none⟩ = some (.int .i64 (eo1 : Int)) := he0
                have he1' : wr.cell? ⟨ge, p * 2 + 1, none⟩ = some (.int .i64 ew1) := he1
                have heix : ∀ w, (Instr.indexAt 43 (.slice (some ⟨ge, 0, none⟩) d2 ce2) (.int .i64 (p : Int))).run Try.prog w = .ok (.pointer (some ⟨ge, p * 2, none⟩)) w := fun w => by
                  have := ER.ix (P := Try.prog) ge 0 d2 ce2 p (by omega) w
                  rw [Nat.zero_add] at this
                  exact this
                have hpd : (p : Int) < (d2 : Int) := by omega
                have hp0 : (p : Int) ≥ 0 := by omega
                have hp0' : (0 : Int) ≤ (p : Int) := by omega
                have hwp : wrap64 ((p : Int) - 1) = (p : Int) - 1 := by have := unhide HDC; have := unhide H60; simp only [wrap64]; omega
                have HAB := hide (kAbove G2.up n2 hsu.rs.wf.uple (by have := unhide HNC; have := unhide H60; omega) eo1 wr hsu.rs.ov i (by have := unhide HM; have := unhide HLT; omega))
                rw [← unhide HM] at HAB
                have hst := fstW_cons G2.up (eo1, ew1) (D2.drop (p + 1)) i
                rw [← hdr] at hst
                have HJ := hide hj
                clear hsu hce he0 he1 hdr hj hjp
                by_cases ha : abN G2.up eo1 i = true
                · rw [ha] at HAB
                  rw [if_pos ha] at hst
                  have HST := hide hst
                  clear hst ha
                  go_wp2_with (first | (go_at_call 18; refine (unhide HAB).mono ?_; rintro e w' ⟨rfl, hw⟩; obtain rfl := hw.symm; clear HAB) | fail)
                  go_roundw
                  case rel => exact ⟨p, by have := unhide HJ; omega, by rw [hwp], hide (by rw [unhide HST]), unhide HU2⟩
                  case measure => simp [intOf]; omega
                · rw [Bool.not_eq_true] at ha
                  rw [ha] at HAB
                  rw [if_neg (by rw [ha]; simp)] at hst
                  have HST := hide hst
                  clear hst ha
                  go_wp2_with (first | (go_at_call 18; refine (unhide HAB).mono ?_; rintro e w' ⟨rfl, hw⟩; obtain rfl := hw.symm; clear HAB) | fail)
                  go_roundw
                  case rel => exact ⟨p, by have := unhide HJ; omega, by rw [hwp], hide (by rw [unhide HST]), unhide HU2⟩
                  case measure => simp [intOf]; omega
              | zero =>
                have hneg : ((0 : Nat) : Int) - 1 = -1 := by omega
                rw [hneg]
                have hsu := unhide HU2
                have hi2 : i = q + 1 := unhide HQ
                subst hi2
                obtain ⟨w, hw⟩ : ∃ w, w = fstW G2.up (D2.drop 0) (q + 1) := ⟨_, rfl⟩
                rw [← hw]
                have hww : (Z2 q).why = w := by rw [hsu.ev q (unhide HQN), hw, List.drop_zero]
                obtain ⟨gt, rfl, hct, _⟩ := own_get hsu.rs.al (i := q + 1) (by rw [allL_len]; have := unhide HQN; omega)
                have ht1 := hct 0 _ rfl
                rw [allL_get] at ht1
                have ht1' : wr.cell? ⟨gt, q + 1, none⟩ = some (.pointer (some ⟨G2.tb q, 0, none⟩)) := by
                  have e : (q + 1) * TR.n + 0 = q + 1 := by show (q + 1) * 1 + 0 = q + 1; omega
                  rw [e] at ht1
                  exact ht1
                obtain ⟨gt', hgt', hct', _⟩ := own_get hsu.rs.al (i := q) (by rw [allL_len]; have := unhide HQN; omega)
                obtain rfl : gt = gt' := by simpa using hgt'
                have ht0 := hct' 0 _ rfl
                rw [allL_get] at ht0
                have ht0' : wr.cell? ⟨gt, q, none⟩ = some (tkP G2 q) := by
                  have e : q * TR.n + 0 = q := by show q * 1 + 0 = q; omega
                  rw [e] at ht0
                  exact ht0
                have hq1ix : ∀ w, (Instr.indexAt 28 (.slice (some ⟨gt, 0, none⟩) m2 ca2) (.int .i64 ((q + 1 : Nat) : Int))).run Try.prog w = .ok (.pointer (some ⟨gt, q + 1, none⟩)) w := fun w => by
                  have := TR.ix (P := Try.prog) gt 0 m2 ca2 (q + 1) (by have := unhide HLT; omega) w
                  rw [Nat.zero_add, show TR.n = 1 from rfl, Nat.mul_one] at this
                  exact this
                have hq0ix : ∀ w, (Instr.indexAt 28 (.slice (some ⟨gt, 0, none⟩) m2 ca2) (.int .i64 (q : Int))).run Try.prog w = .ok (.pointer (some ⟨gt, q, none⟩)) w := fun w => by
                  have := TR.ix (P := Try.prog) gt 0 m2 ca2 q (by have := unhide HLT; omega) w
                  rw [Nat.zero_add, show TR.n = 1 from rfl, Nat.mul_one] at this
                  exact this
                obtain ⟨i, hi⟩ : ∃ i, i = q + 1 := ⟨_, rfl⟩
                have hqi : IntKind.i64.wrap ((i : Int) - 1) = (q : Int) := by have := unhide HW60; rw [IntKind.wrap_i64]; omega
                have hqi2 : wrap64 ((i : Int) - 1) = (q : Int) := by have := unhide HW60; simp only [wrap64]; omega
                have hqm0 : (q : Int) < (m2 : Int) := by have := unhide HLT; omega
                have HWY := hide (fun x => kWhyN (hsu.rs.fo.below (belowDrewN (Below.refl wr.heap.size wr) x)) (k := q + 1) (by have := unhide HQN; omega))
                have HOF := hide (fun x => kOffN (hsu.rs.fo.below (belowDrewN (Below.refl wr.heap.size wr) x)) (k := q + 1) (by have := unhide HQN; omega))
                have HON := hide (fun x => kOneN (hsu.rs.fo.below (belowDrewN (Below.refl wr.heap.size wr) x)) (a := q + 1) (b := q) (by have := unhide HQN; omega) (by have := unhide HQN; omega))
                rw [decide_eq_false (by omega)] at HON
                have HWY : Hid (∀ x, Calls Try.prog 15 #[.pointer (some ⟨G2.tb q, 0, none⟩)] (wr.drewN x) fun e w' => e = .returned (.int .i64 w) ∧ w' = wr.drewN x) := by rw [← hww]; exact HWY
                have HOF : Hid (∀ x, Calls Try.prog 16 #[.pointer (some ⟨G2.tb q, 0, none⟩)] (wr.drewN x) fun e w' => e = .returned (.bool (w != 0)) ∧ w' = wr.drewN x) := by rw [← hww]; exact HOF
                have HON : Hid (∀ x, Calls Try.prog 19 #[.pointer (some ⟨G2.tb q, 0, none⟩), tkP G2 q] (wr.drewN x) fun e w' => e = .returned (.bool false) ∧ w' = wr.drewN x) := HON
                have hneq : (w != w) = false := by simp
                have HSU := hide hsu
                have HWI := hide (show q + 1 ≤ 61 from unhide HW60)
                rw [← hi] at ht1' hq1ix ⊢
                have HI := hide hi
                have hmi : (i : Int) < (m2 : Int) := by have := unhide HLT; omega
                clear hsu hw hww hct hct' ht1 ht0 hgt' hi hj
                go_wp2
                go_quiet (first | with_reducible exact Calls.quiet_of_same (unhide HWY _) | with_reducible exact Calls.quiet_of_same (unhide HOF _) | with_reducible exact Calls.quiet_of_same (unhide HON _) | fail)
                have hwi : wrap64 ((i : Int) + 1) = ((i + 1 : Nat) : Int) := by have := unhide HWI; have := unhide HI; simp only [wrap64]; omega
                go_wp2
                go_roundw
                case rel => exact ⟨i + 1, by omega, by have := unhide HLT; have := unhide HI; omega, by rw [hwi], hide ((unhide HSU).below (belowDrewN (Below.refl _ _) _))⟩
                case measure =>
                  have hlt := unhide HLT
                  rw [← unhide HI] at hlt
                  rw [hwi]
                  clear hwi HWY HOF HON
                  simp only [intOf, Int.toNat_natCast]
                  have hi := unhide HI
                  omega
          · obtain rfl : i = m2 := by omega
            have HS3 := hide (unhide HV)
            have hc1 : IntKind.i64.wrap ((c : Int) + 1) = ((c + 1 : Nat) : Int) := by have := unhide H60; rw [IntKind.wrap_i64]; omega
            have hc2 : wrap64 ((c : Int) + 1) = ((c + 1 : Nat) : Int) := by have := unhide H60; simp only [wrap64]; omega
            clear hi1 him hlt2
            go_wp2
            go_roundw
            case rel => exact ⟨c + 1, i, n2, d2, ca2, cb2, ce2, ao2, bo2, eo2, D2, G2, Z2, by have := unhide H2; omega, rfl, rfl, rfl, rfl, hide ⟨unhide HM, unhide HD, unhide HNC, unhide HDC, unhide HS3⟩⟩
            case measure => have := unhide H2; simp [intOf]; omega
    · have hs := (unhide HS).2.2.2.2
      have hnc := (unhide HS).2.2.1
      have HBL := hide hs.rs.bl
      have HN1 := hide (show n + 1 < 6000000000000 by omega)
      have HNEW := hide (kNewN hs.rs.fo hs.rs.wf hs.rs.bl.size)
      have hend : ∃ b : Bool, (decide ((c : Int) < (L : Int)) && decide ((c : Int) < 60)) = false := ⟨true, by
        by_cases e1 : c < L
        · have : ¬ (c : Int) < 60 := fun e => hlt ⟨e1, by omega⟩
          simp [this]
        · have : ¬ (c : Int) < (L : Int) := by omega
          simp [this]⟩
      clear hs hnc HS hend
      by_cases e1 : c < L
      · have h1i : (c : Int) < (L : Int) := by omega
        have h2i : ¬ (c : Int) < 60 := fun e => hlt ⟨e1, by omega⟩
        clear hlt e1 hc60
        go_wp2_with (first
          | (go_at_call 12; refine (unhide HNEW).mono ?_; rintro e X ⟨tb, kb, lb, ch, Z', rfl, hmo⟩; have ht : tkP (G.ext n tb kb lb ch 0) (n + 1) = .pointer (some ⟨tb, 0, none⟩) := (by show Value.pointer (some ⟨(G.ext n tb kb lb ch 0).tb n, 0, none⟩) = _; rw [ext_self.1]); have hz : whyN Z' (n + 1) = 0 := hmo.new; have HC1 := hide (kCancelN hmo.fo hmo.wf (unhide HN1) (Nat.le_refl _) 0); rw [ht, decide_eq_true (show n + 1 ≠ 0 ∧ whyN Z' (n + 1) = 0 from ⟨by omega, hz⟩)] at HC1; have HMO := hide hmo; have HTK := hide ht; have HZ0 := hide hz; clear hmo ht hz HNEW)
          | (go_at_call 14; refine (unhide HC1).mono ?_; rintro e X2 ⟨Z2, rfl, hcu⟩; have hz2 : whyN Z2 (n + 1) = 180 := (by show (Z2 n).why = 180; rw [hcu.all n (by omega), if_pos ⟨by omega, unhide HZ0, unhide HZ0, anc_self⟩]; rfl); have HWY := hide (kWhyN hcu.fo (Nat.le_refl _)); rw [unhide HTK, hz2] at HWY; have HC2 := hide (kCancelN hcu.fo hcu.wf (unhide HN1) (Nat.le_refl _) 5); rw [unhide HTK, decide_eq_false (show ¬ (n + 1 ≠ 0 ∧ whyN Z2 (n + 1) = 0) from fun e => by rw [hz2] at e; exact absurd e.2 (by decide))] at HC2; have HCU := hide hcu; clear hcu hz2 HC1)
          | (go_at_call 15; refine (unhide HWY).mono ?_; rintro e w' ⟨rfl, hw⟩; obtain rfl := hw.symm; clear HWY)
          | (go_at_call 14; refine (unhide HC2).mono ?_; rintro e X3 ⟨Z3, rfl, hc3⟩; have HC3 := hide hc3; clear hc3 HC2)
          | fail)
        go_ret
        have b1 := (unhide HBL).trans ((unhide HMO).fr.below (unhide HBL).size)
        have b2 := b1.trans ((unhide HCU).fr.below b1.size)
        exact ⟨rfl, b2.trans ((unhide HC3).fr.below b2.size)⟩
      · have h1i : ¬ (c : Int) < (L : Int) := by omega
        clear hlt e1 hc60
        go_wp2_with (first
          | (go_at_call 12; refine (unhide HNEW).mono ?_; rintro e X ⟨tb, kb, lb, ch, Z', rfl, hmo⟩; have ht : tkP (G.ext n tb kb lb ch 0) (n + 1) = .pointer (some ⟨tb, 0, none⟩) := (by show Value.pointer (some ⟨(G.ext n tb kb lb ch 0).tb n, 0, none⟩) = _; rw [ext_self.1]); have hz : whyN Z' (n + 1) = 0 := hmo.new; have HC1 := hide (kCancelN hmo.fo hmo.wf (unhide HN1) (Nat.le_refl _) 0); rw [ht, decide_eq_true (show n + 1 ≠ 0 ∧ whyN Z' (n + 1) = 0 from ⟨by omega, hz⟩)] at HC1; have HMO := hide hmo; have HTK := hide ht; have HZ0 := hide hz; clear hmo ht hz HNEW)
          | (go_at_call 14; refine (unhide HC1).mono ?_; rintro e X2 ⟨Z2, rfl, hcu⟩; have hz2 : whyN Z2 (n + 1) = 180 := (by show (Z2 n).why = 180; rw [hcu.all n (by omega), if_pos ⟨by omega, unhide HZ0, unhide HZ0, anc_self⟩]; rfl); have HWY := hide (kWhyN hcu.fo (Nat.le_refl _)); rw [unhide HTK, hz2] at HWY; have HC2 := hide (kCancelN hcu.fo hcu.wf (unhide HN1) (Nat.le_refl _) 5); rw [unhide HTK, decide_eq_false (show ¬ (n + 1 ≠ 0 ∧ whyN Z2 (n + 1) = 0) from fun e => by rw [hz2] at e; exact absurd e.2 (by decide))] at HC2; have HCU := hide hcu; clear hcu hz2 HC1)
          | (go_at_call 15; refine (unhide HWY).mono ?_; rintro e w' ⟨rfl, hw⟩; obtain rfl := hw.symm; clear HWY)
          | (go_at_call 14; refine (unhide HC2).mono ?_; rintro e X3 ⟨Z3, rfl, hc3⟩; have HC3 := hide hc3; clear hc3 HC2)
          | fail)
        go_ret
        have b1 := (unhide HBL).trans ((unhide HMO).fr.below (unhide HBL).size)
        have b2 := b1.trans ((unhide HCU).fr.below b1.size)
        exact ⟨rfl, b2.trans ((unhide HC3).fr.below b2.size)⟩
end Go.Proofs.Ytajbkgcgmkkpiaa.C
