/- KindsUp: the walk. -/
import Derived.Test.YtpepgealeanecaaGyd
import Derived.Deep.DeepCutAuto
namespace Go.Proofs.Ytpepgealeanecaa
open Go.RowKit Go.Lib
set_option maxRecDepth 100000 in
set_option maxHeartbeats 16000000 in
theorem up12_walk (a1 a2 : Option Addr) (l1 l2 : List (Nat × Int)) (n1 n2 c1 c2 : Nat) (e1 : n1 = l1.length) (e2 : n2 = l2.length) (u : World) (h1 : Cs u a1 l1) (h2 : Cs u a2 l2) : Calls Try.prog 10 #[.slice a1 n1 c1, .slice a2 n2 c2] u fun e u' => e = .returned (.bool true) ∧ Below u.heap.size u u' := by
  have HL1 := hide h1
  have HL2 := hide h2
  have HTL := hide kTally
  have hm1 : n1 ≤ 140737488355328 := by rw [e1]; exact h1.len
  have hm2 : n2 ≤ 140737488355328 := by rw [e2]; exact h2.len
  have HB : Hid (Below u.heap.size u u) := Below.refl _ _
  have E1 := hide e1
  have E2 := hide e2
  clear h1 h2 e1 e2
  go_enter Try.func10, Try.ntmps10
  go_wp2_with (first
    | (go_at_call 33; (with_reducible refine (unhide HTL _).mono ?_); rintro e Wn ⟨rfl, hb⟩; replace HB := hide (Below.trans (unhide HB) (hb.mono (unhide HB).size)); clear hb)
    | fail)
  go_loopw [5, 7, 8] (fun s5 s7 s8 wr => ∃ (k : Nat) (ta : List Nat), k ≤ n1 ∧ s8 = .int .i64 k ∧ s5 = .string (tS (nT ta)) ∧ s7 = .int .i64 (tsm ta 5) ∧ Hid (Gt10 ta ∧ Lo ta) ∧ Hid (Below u.heap.size u wr)) (fun _ _ s8 _ => n1 - (intOf s8).toNat)
  case atStart => exact ⟨0, ta0, Nat.zero_le _, rfl, rfl, rfl, ⟨gt_0, lo_0⟩, unhide HB⟩
  case round =>
    obtain ⟨k, ta, hk, rfl, rfl, rfl, HG, HI⟩ := hrel
    clear HB
    by_cases hlt : k < n1 ∧ k < 40
    ·   have hki : (k : Int) < (n1 : Int) := by omega
        have hk40 : (k : Int) < 40 := by omega
        obtain ⟨g, o, hao, hr⟩ := (unhide HL1).lies (by have := unhide E1; omega)
        have hr := hr k (by have := unhide E1; omega)
        have hfx := (unhide HL1).fits _ (List.getElem_mem (show k < l1.length by have := unhide E1; omega))
        have hkl : k < l1.length := by have := unhide E1; omega
        have cx0 : u.cell? ⟨g, o + k * 2, none⟩ = some (.int .u8 (l1[k].1 : Int)) := hr 0 _ rfl
        have cx1 : u.cell? ⟨g, o + k * 2 + 1, none⟩ = some (.int .i16 l1[k].2) := hr 1 _ rfl
        have cy0 := ((unhide HI).cell (p := ⟨g, o + k * 2, none⟩) (World.block_lt_of_cell? u _ cx0)).trans cx0
        have cy1 := ((unhide HI).cell (p := ⟨g, o + k * 2 + 1, none⟩) (World.block_lt_of_cell? u _ cx1)).trans cx1
        have hix := ixCn g o n1 c1 k hlt.1
        clear cx0 cx1 hr
        generalize l1[k].1 = rp at *
        generalize l1[k].2 = c at *
        generalize o + k * 2 = oo at *
        subst hao
        have hrm : (rp : Int).tmod 2 = ((rp % 2 : Nat) : Int) := by rw [Int.tmod_eq_emod_of_nonneg (by omega)]; omega
        have had : IntKind.u8.wrap (((rp % 2 : Nat) : Int) + 1) = ((rp % 2 + 1 : Nat) : Int) := by rw [IntKind.wrap_u8]; omega
        have HR15 : Hid (1 ≤ rp % 2 + 1 ∧ rp % 2 + 1 ≤ 2) := by show _ ∧ _; omega
        generalize hrr : rp % 2 + 1 = r at *
        generalize rp % 2 = rq at *
        clear hrr
        obtain ⟨M, hM⟩ : ∃ M, M = wr.heap.size := ⟨_, rfl⟩
        have HM := hide hM
        clear hM
        obtain ⟨w0, hw0⟩ : ∃ x, x = wr := ⟨_, rfl⟩
        rw [← hw0] at HI HM cy0 cy1 ⊢
        clear hw0
        have HSB := hide (fun (w : World) => kStepGo ta (unhide HG).1.1 (unhide HG).1.2 r (by have := (unhide HR15).1; omega) (by have := (unhide HR15).2; omega) c hfx.2.1 hfx.2.2 w)
        cases hst : stR ta r c with
        | none =>
          have HSN := hide (fun (w : World) => (unhide HSB w).2 hst)
          clear HSB hst hfx
          go_wp2_with (first
            | ((with_reducible refine wpList_alloc_cn (by rfl) (by rfl) (some 9) (by rfl) M (unhide HM) ?_); intro W2 HX2 HB2 HS2; simp only [Act.put, List.setIfInBounds_toArray, List.set_cons_zero, List.set_cons_succ])
            | ((with_reducible refine wpList_store_cn (by rfl) (.tmp 9) (.tmp 37) (by rfl) M (rp : Int) c (by with_unfolding_all rfl) (by with_unfolding_all rfl) (unhide HX2) ?_); intro W3 HX3 HE3; simp only [Act.put]; have HB3 : Hid (Below u.heap.size u W3) := (Below.trans (unhide HI) (by rw [unhide HE3]; exact (belowRow (unhide HB2) (Nat.le_refl _) _).mono (by rw [unhide HM]; exact (unhide HI).size))); obtain ⟨y0, y1, y2⟩ := cn_cells (unhide HX3); have HX4 := hide (cn_set (v := .int .u8 (r : Int)) (unhide HX3)); obtain ⟨z0, z1, z2⟩ := cn_cells (unhide HX4); have HB4 : Hid (Below u.heap.size u (W3.setCell ⟨M, 0, none⟩ (.int .u8 (r : Int)))) := belowCell (unhide HB3) (by show u.heap.size ≤ M; rw [unhide HM]; exact (unhide HI).size) _; generalize hW4 : W3.setCell ⟨M, 0, none⟩ (.int .u8 (r : Int)) = W4 at HX4 HB4 z0 z1 z2)
            | (go_at_call 31; refine (unhide HSN W4).mono ?_; rintro e W5 ⟨rfl, hb5⟩; have HB5 := hide ((unhide HB4).trans (hb5.mono (unhide HB4).size)); clear hb5)
            | fail)
          exact ⟨⟨k + 1, ta, by omega, by go_num, rfl, rfl, unhide HG, unhide HB5⟩, by simp [intOf]; omega⟩
        | some t =>
          have HSS := hide (fun (w : World) => (unhide HSB w).1 t hst)
          have HP := hide (step_some (unhide HG).1 (by have := (unhide HR15).1; omega) (by have := (unhide HR15).2; omega) hst)
          have hwc : wrap64 c = c := by simp only [wrap64]; omega
          have hsum : wrap64 (tsm ta 5 + c) = tsm t 5 := by
            rw [(unhide HP).2.1]
            have b1 := tsm_bd (unhide HG).1.2 5
            skip
            simp only [wrap64]; omega
          have HSUM := hide hsum
          clear HSB hst hsum
          have HBE : Hid (∀ w : World, Calls Try.prog 15 #[.string (tS (nT ta)), .string (tS (nT t))] w fun e u' => e = .returned (.bool true) ∧ Below w.heap.size w u') := fun w => kBelow _ _ _ _ (jo_n (unhide HG).1 (unhide HP).1) true (by rw [jn_n, tS_list, (unhide HP).2.2.1]; exact decide_eq_true rfl) w
          have hq : ((tS (nT t)).toList == (tS (nT ta)).toList) = (c == 0) := by
            have q := str_beq (toldM (nT t)) (tS (nT ta))
            rw [tS_list] at q
            rw [show (tS (nT t)) = ⟨(toldM (nT t)).toArray⟩ from rfl, q, Bool.eq_iff_iff, decide_eq_true_iff, told_n_inj (unhide HP).1 (unhide HG).1, (unhide HP).2.2.2.1]
            simp
          have HLO : Hid (Lo t) := by
            rw [(unhide HP).2.2.2.2]
            refine lo_set (unhide HG).2 ?_
            have := (unhide HR15).2
            unfold stI; split <;> omega
          by_cases hc0 : c = 0
          all_goals
            first
              | (have hcz : (c == 0) = true := by simpa using hc0)
              | (have hcz : (c == 0) = false := by simpa using hc0)
            rw [hcz] at hq
            clear hc0 hfx
            generalize hS1 : tS (nT t) = S1 at *
            generalize hS0 : tS (nT ta) = S0 at *
            have HS1 := hide hS1
            clear hS1 hS0
            go_wp2_with (first
              | ((with_reducible refine wpList_alloc_cn (by rfl) (by rfl) (some 9) (by rfl) M (unhide HM) ?_); intro W2 HX2 HB2 HS2; simp only [Act.put, List.setIfInBounds_toArray, List.set_cons_zero, List.set_cons_succ])
              | ((with_reducible refine wpList_store_cn (by rfl) (.tmp 9) (.tmp 37) (by rfl) M (rp : Int) c (by with_unfolding_all rfl) (by with_unfolding_all rfl) (unhide HX2) ?_); intro W3 HX3 HE3; simp only [Act.put]; have HB3 : Hid (Below u.heap.size u W3) := (Below.trans (unhide HI) (by rw [unhide HE3]; exact (belowRow (unhide HB2) (Nat.le_refl _) _).mono (by rw [unhide HM]; exact (unhide HI).size))); obtain ⟨y0, y1, y2⟩ := cn_cells (unhide HX3); have HX4 := hide (cn_set (v := .int .u8 (r : Int)) (unhide HX3)); obtain ⟨z0, z1, z2⟩ := cn_cells (unhide HX4); have HB4 : Hid (Below u.heap.size u (W3.setCell ⟨M, 0, none⟩ (.int .u8 (r : Int)))) := belowCell (unhide HB3) (by show u.heap.size ≤ M; rw [unhide HM]; exact (unhide HI).size) _; generalize hW4 : W3.setCell ⟨M, 0, none⟩ (.int .u8 (r : Int)) = W4 at HX4 HB4 z0 z1 z2)
              | (go_at_call 31; refine (unhide HSS W4).mono ?_; rintro e W5 ⟨rfl, hb5⟩; have HX5 := hide (box_below (unhide HX4) hb5); have HB5 := hide ((unhide HB4).trans (hb5.mono (unhide HB4).size)); clear hb5)
              | (go_at_call 15; refine (unhide HBE W5).mono ?_; rintro e W6 ⟨rfl, hb6⟩; have HX6 := hide (box_below (unhide HX5) hb6); have HB6 := hide ((unhide HB5).trans (hb6.mono (unhide HB5).size)); clear hb6; obtain ⟨v0, v1, v2⟩ := cn_cells (unhide HX6))
              | fail)
            go_roundw
            case rel => exact ⟨k + 1, t, by omega, by go_num, by rw [unhide HS1], by rw [← unhide HSUM], ⟨(unhide HP).1, unhide HLO⟩, unhide HB6⟩
            case measure => simp [intOf]; omega
    · skip
      go_upto_region 5 with fail
      go_cut [31] from 24 to 31 (fun s31 wx => s31 = .bool false ∧ wx = wr)
      case first =>
        by_cases hk1 : k < n1
        · have q1 : (k : Int) < (n1 : Int) := by omega
          have q2 : ¬ (k : Int) < 40 := by omega
          go_wp2_with fail
          go_meet
          exact ⟨rfl, rfl⟩
        · have q1 : ¬ (k : Int) < (n1 : Int) := by omega
          go_wp2_with fail
          go_meet
          exact ⟨rfl, rfl⟩
      case rest =>
        obtain ⟨rfl, hwc⟩ := hcut
        obtain rfl := hwc
        have HAS := hide (fun (w : World) => kAsTally ta (unhide HG).1.1 (unhide HG).1.2 w)
        have hw6 : wrap64 (tsm ta 5) = tsm ta 5 := by have b1 := tsm_bd (unhide HG).1.2 5; simp only [wrap64]; omega
        have hne : (tsm ta 5 != tsm ta 5) = false := by simp
        clear hlt
        go_wp2_with (first
          | (go_at_call 22; refine (unhide HAS _).mono ?_; rintro e W9 ⟨rfl, hb9⟩; have HB9 := hide ((unhide HI).trans (hb9.mono (unhide HI).size)); clear hb9)
          | fail)
        clear HI HAS hne hk hw6
        go_loopw [6, 7, 14] (fun s6 s7 s14 wr => ∃ (k : Nat) (tb : List Nat), k ≤ n2 ∧ s14 = .int .i64 k ∧ s6 = .string (tS (nT tb)) ∧ s7 = .int .i64 (tsm ta 5 + tsm tb 5) ∧ Hid (Gt10 tb ∧ Hi tb) ∧ Hid (Below u.heap.size u wr)) (fun _ _ s14 _ => n2 - (intOf s14).toNat)
        case atStart => exact ⟨0, ta0, Nat.zero_le _, rfl, rfl, by rw [show tsm ta0 5 = 0 from rfl, Int.add_zero], ⟨gt_0, hi_0⟩, unhide HB9⟩
        case round =>
          obtain ⟨k, tb, hk, rfl, rfl, rfl, HGB, HI⟩ := hrel
          clear HB9
          by_cases hlt : k < n2 ∧ k < 40
          · skip
            have hki : (k : Int) < (n2 : Int) := by omega
            have hk40 : (k : Int) < 40 := by omega
            obtain ⟨g, o, hao, hr⟩ := (unhide HL2).lies (by have := unhide E2; omega)
            have hr := hr k (by have := unhide E2; omega)
            have hfx := (unhide HL2).fits _ (List.getElem_mem (show k < l2.length by have := unhide E2; omega))
            have hkl : k < l2.length := by have := unhide E2; omega
            have cx0 : u.cell? ⟨g, o + k * 2, none⟩ = some (.int .u8 (l2[k].1 : Int)) := hr 0 _ rfl
            have cx1 : u.cell? ⟨g, o + k * 2 + 1, none⟩ = some (.int .i16 l2[k].2) := hr 1 _ rfl
            have cy0 := ((unhide HI).cell (p := ⟨g, o + k * 2, none⟩) (World.block_lt_of_cell? u _ cx0)).trans cx0
            have cy1 := ((unhide HI).cell (p := ⟨g, o + k * 2 + 1, none⟩) (World.block_lt_of_cell? u _ cx1)).trans cx1
            have hix := ixCn g o n2 c2 k hlt.1
            clear cx0 cx1 hr
            generalize l2[k].1 = rp at *
            generalize l2[k].2 = c at *
            generalize o + k * 2 = oo at *
            subst hao
            have hrm : (rp : Int).tmod 3 = ((rp % 3 : Nat) : Int) := by rw [Int.tmod_eq_emod_of_nonneg (by omega)]; omega
            have had : IntKind.u8.wrap (((rp % 3 : Nat) : Int) + 3) = ((rp % 3 + 3 : Nat) : Int) := by rw [IntKind.wrap_u8]; omega
            have HR15 : Hid (3 ≤ rp % 3 + 3 ∧ rp % 3 + 3 ≤ 5) := by show _ ∧ _; omega
            generalize hrr : rp % 3 + 3 = r at *
            generalize rp % 3 = rq at *
            clear hrr
            obtain ⟨M, hM⟩ : ∃ M, M = wr.heap.size := ⟨_, rfl⟩
            have HM := hide hM
            clear hM
            obtain ⟨w0, hw0⟩ : ∃ x, x = wr := ⟨_, rfl⟩
            rw [← hw0] at HI HM cy0 cy1 ⊢
            clear hw0
            have HSB := hide (fun (w : World) => kStepGo tb (unhide HGB).1.1 (unhide HGB).1.2 r (by have := (unhide HR15).1; omega) (by have := (unhide HR15).2; omega) c hfx.2.1 hfx.2.2 w)
            cases hst : stR tb r c with
            | none =>
              have HSN := hide (fun (w : World) => (unhide HSB w).2 hst)
              clear HSB hst hfx
              go_wp2_with (first
                | ((with_reducible refine wpList_alloc_cn (by rfl) (by rfl) (some 15) (by rfl) M (unhide HM) ?_); intro W2 HX2 HB2 HS2; simp only [Act.put, List.setIfInBounds_toArray, List.set_cons_zero, List.set_cons_succ])
                | ((with_reducible refine wpList_store_cn (by rfl) (.tmp 15) (.tmp 103) (by rfl) M (rp : Int) c (by with_unfolding_all rfl) (by with_unfolding_all rfl) (unhide HX2) ?_); intro W3 HX3 HE3; simp only [Act.put]; have HB3 : Hid (Below u.heap.size u W3) := (Below.trans (unhide HI) (by rw [unhide HE3]; exact (belowRow (unhide HB2) (Nat.le_refl _) _).mono (by rw [unhide HM]; exact (unhide HI).size))); obtain ⟨y0, y1, y2⟩ := cn_cells (unhide HX3); have HX4 := hide (cn_set (v := .int .u8 (r : Int)) (unhide HX3)); obtain ⟨z0, z1, z2⟩ := cn_cells (unhide HX4); have HB4 : Hid (Below u.heap.size u (W3.setCell ⟨M, 0, none⟩ (.int .u8 (r : Int)))) := belowCell (unhide HB3) (by show u.heap.size ≤ M; rw [unhide HM]; exact (unhide HI).size) _; generalize hW4 : W3.setCell ⟨M, 0, none⟩ (.int .u8 (r : Int)) = W4 at HX4 HB4 z0 z1 z2)
                | (go_at_call 31; refine (unhide HSN W4).mono ?_; rintro e W5 ⟨rfl, hb5⟩; have HB5 := hide ((unhide HB4).trans (hb5.mono (unhide HB4).size)); clear hb5)
                | fail)
              exact ⟨⟨k + 1, tb, by omega, by go_num, rfl, rfl, unhide HGB, unhide HB5⟩, by simp [intOf]; omega⟩
            | some t =>
              have HSS := hide (fun (w : World) => (unhide HSB w).1 t hst)
              have HP := hide (step_some (unhide HGB).1 (by have := (unhide HR15).1; omega) (by have := (unhide HR15).2; omega) hst)
              have hwc : wrap64 c = c := by simp only [wrap64]; omega
              have hsum : wrap64 (tsm ta 5 + tsm tb 5 + c) = (tsm ta 5 + tsm t 5) := by
                rw [(unhide HP).2.1]
                have b1 := tsm_bd (unhide HGB).1.2 5
                have b2 := tsm_bd (unhide HG).1.2 5
                simp only [wrap64]; omega
              have HSUM := hide hsum
              clear HSB hst hsum
              have HLO : Hid (Hi t) := by
                rw [(unhide HP).2.2.2.2]
                refine hi_set (unhide HGB).2 ?_
                have := (unhide HR15).1
                unfold stI; split <;> omega
              clear hfx
              go_wp2_with (first
                | ((with_reducible refine wpList_alloc_cn (by rfl) (by rfl) (some 15) (by rfl) M (unhide HM) ?_); intro W2 HX2 HB2 HS2; simp only [Act.put, List.setIfInBounds_toArray, List.set_cons_zero, List.set_cons_succ])
                | ((with_reducible refine wpList_store_cn (by rfl) (.tmp 15) (.tmp 103) (by rfl) M (rp : Int) c (by with_unfolding_all rfl) (by with_unfolding_all rfl) (unhide HX2) ?_); intro W3 HX3 HE3; simp only [Act.put]; have HB3 : Hid (Below u.heap.size u W3) := (Below.trans (unhide HI) (by rw [unhide HE3]; exact (belowRow (unhide HB2) (Nat.le_refl _) _).mono (by rw [unhide HM]; exact (unhide HI).size))); obtain ⟨y0, y1, y2⟩ := cn_cells (unhide HX3); have HX4 := hide (cn_set (v := .int .u8 (r : Int)) (unhide HX3)); obtain ⟨z0, z1, z2⟩ := cn_cells (unhide HX4); have HB4 : Hid (Below u.heap.size u (W3.setCell ⟨M, 0, none⟩ (.int .u8 (r : Int)))) := belowCell (unhide HB3) (by show u.heap.size ≤ M; rw [unhide HM]; exact (unhide HI).size) _; generalize hW4 : W3.setCell ⟨M, 0, none⟩ (.int .u8 (r : Int)) = W4 at HX4 HB4 z0 z1 z2)
                | (go_at_call 31; refine (unhide HSS W4).mono ?_; rintro e W5 ⟨rfl, hb5⟩; have HX5 := hide (box_below (unhide HX4) hb5); have HB5 := hide ((unhide HB4).trans (hb5.mono (unhide HB4).size)); clear hb5; obtain ⟨v0, v1, v2⟩ := cn_cells (unhide HX5))
                | fail)
              go_roundw
              case rel => exact ⟨k + 1, t, by omega, by go_num, rfl, by rw [← unhide HSUM], ⟨(unhide HP).1, unhide HLO⟩, unhide HB5⟩
              case measure => simp [intOf]; omega
          · skip
            go_upto_region 19 with fail
            go_cut [97] from 90 to 97 (fun s97 wx => s97 = .bool false ∧ wx = wr)
            case first =>
              by_cases hk1 : k < n2
              · have q1 : (k : Int) < (n2 : Int) := by omega
                have q2 : ¬ (k : Int) < 40 := by omega
                go_wp2_with fail
                go_meet
                exact ⟨rfl, rfl⟩
              · have q1 : ¬ (k : Int) < (n2 : Int) := by omega
                go_wp2_with fail
                go_meet
                exact ⟨rfl, rfl⟩
            case rest =>
              obtain ⟨rfl, hwc⟩ := hcut
              obtain rfl := hwc
              have HJN := hide (fun (w : World) => kJoin _ _ _ _ (jo_n (unhide HG).1 (unhide HGB).1) w)
              rw [jn_n] at HJN
              have HAJ := hide (fun (w : World) => kAsTally (tjn ta tb) (gt_jn (unhide HG).1 (unhide HGB).1).1 (gt_jn (unhide HG).1 (unhide HGB).1).2 w)
              rw [tsm_jn (unhide HG).1.1 (unhide HGB).1.1 (unhide HG).2 (unhide HGB).2] at HAJ
              have HAL := hide lAlive
              have hw7 : wrap64 (tsm ta 5 + tsm tb 5) = tsm ta 5 + tsm tb 5 := by have b1 := tsm_bd (unhide HG).1.2 5; have b2 := tsm_bd (unhide HGB).1.2 5; simp only [wrap64]; omega
              generalize tsm ta 5 + tsm tb 5 = sm at *
              have heq : (sm == sm) = true := by simp
              clear hlt
              go_wp2_with (first
                | (go_at_call 11; refine (unhide HJN _).mono ?_; rintro e Wn ⟨rfl, hb⟩; replace HI := hide (Below.trans (unhide HI) (hb.mono (unhide HI).size)); clear hb)
                | (go_at_call 22; refine (unhide HAJ _).mono ?_; rintro e Wn ⟨rfl, hb⟩; replace HI := hide (Below.trans (unhide HI) (hb.mono (unhide HI).size)); clear hb)
                | (go_at_call 17; refine (unhide HAL _).mono ?_; rintro e Wn ⟨rfl, hb⟩; replace HI := hide (Below.trans (unhide HI) (hb.mono (unhide HI).size)); clear hb)
                | fail)
              go_ret
              exact ⟨rfl, unhide HI⟩
end Go.Proofs.Ytpepgealeanecaa
