/- Nodes: kept, of a node that was lent and stayed. -/
import Derived.Test.YtppmpomfihalfaaNru
namespace Go.Proofs.Ytppmpomfihalfaa
open Go.RowKit

theorem wrap_40 {k k1 : Nat} (h : (k : Int) ≤ 35184372087808) (hk : k1 = k + 40) : wrap64 ((k : Int) + 40) = (k1 : Int) ∧ IntKind.i64.wrap ((k : Int) + 40) = (k1 : Int) := by
  subst hk
  constructor
  · unfold wrap64; omega
  · rw [IntKind.wrap_i64]; omega
theorem Le.pos {w : World} {B : Nat} {n : Nd} {b : Nv} (hl : Le w B n b) : (n.cells.length + 40 ≤ b.cc ∧ ∃ g, b.ca = some ⟨g, 0, none⟩) ∧ (n.keys.length + 40 ≤ b.kc ∧ ∃ g, b.ka = some ⟨g, 0, none⟩) ∧ (n.kids.length + 40 ≤ b.gc ∧ ∃ g, b.ga = some ⟨g, 0, none⟩) ∧ Lies w b.ca (flatC (wC n.cells 40)) ∧ Lies w b.ka (flatK (wK n.keys 40)) ∧ Lies w b.ga (flatG (wG n.kids 40)) := by
  have h1 := hl.own.c
  have h2 := hl.own.k
  have h3 := hl.own.g
  have l1 := (own_liesS h1).1
  have l2 := (own_liesS h2).1
  have l3 := (own_liesS h3).1
  rw [wC_len] at h1
  rw [wK_len] at h2
  rw [wG_len] at h3
  exact ⟨own_pos h1 (Nat.succ_pos _), own_pos h2 (Nat.succ_pos _), own_pos h3 (Nat.succ_pos _), l1, l2, l3⟩
set_option maxRecDepth 100000 in
set_option maxHeartbeats 8000000 in
theorem lKept (n : Nd) (a b : Nv) (B : Nat) (u : World) (h : NdAt u n a) (hn : a.Nil) (hb : n.Few) (hl : Le u B n b) : Calls Try.prog 22 #[b.v n, a.v n] u fun e u' => e = .returned (.bool true) ∧ Below u.heap.size u u' := by
  have hb1 : (n.cells.length : Int) ≤ 35184372087808 := by have := hb.1; omega
  have hb2 : (n.keys.length : Int) ≤ 35184372087808 := by have := hb.2.1; omega
  have hb3 : (n.kids.length : Int) ≤ 35184372087808 := by have := hb.2.2; omega
  have H2 := hide (fun (v : World) (hv : Below u.heap.size u v) => lLent n a v (h.below hv) hn hb)
  obtain ⟨hoc, hok, hog, hC, hK, hG⟩ := hl.pos
  have HC : Hid (Lies u b.ca (flatC (wC n.cells 40))) := hC
  have HK : Hid (Lies u b.ka (flatK (wK n.keys 40))) := hK
  have HG : Hid (Lies u b.ga (flatG (wG n.kids 40))) := hG
  clear hC hK hG
  have HLC := hide (wC_len n.cells 40)
  have HLK := hide (wK_len n.keys 40)
  have HLG := hide (wG_len n.kids 40)
  have HOP : Hid (∀ (w : World) (B : Nat) (b : Nv), Le w B n b → (n.cells.length + 40 ≤ b.cc ∧ ∃ g, b.ca = some ⟨g, 0, none⟩) ∧ (n.keys.length + 40 ≤ b.kc ∧ ∃ g, b.ka = some ⟨g, 0, none⟩) ∧ (n.kids.length + 40 ≤ b.gc ∧ ∃ g, b.ga = some ⟨g, 0, none⟩) ∧ Lies w b.ca (flatC (wC n.cells 40)) ∧ Lies w b.ka (flatK (wK n.keys 40)) ∧ Lies w b.ga (flatG (wG n.kids 40))) := fun w B b hl => hl.pos
  obtain ⟨N, hN⟩ : ∃ N, N = u.heap.size := ⟨_, rfl⟩
  have HN := hide hN
  rw [← hN] at H2 ⊢
  clear hN h hn hb hl
  obtain ⟨ca, cc, ka, kc, ga, gc⟩ := a
  obtain ⟨da, dc, la, lc, ha, hc⟩ := b
  have HV : Hid (∀ b : Nv, b.v n = .agg #[.bool n.leaf, .slice b.ca n.cells.length b.cc, .slice b.ka n.keys.length b.kc, .slice b.ga n.kids.length b.gc]) := fun b => Nv.v_eq n b
  rw [unhide HV] at H2
  rw [unhide HV, unhide HV]
  obtain ⟨hc1, g1, hg1⟩ := hoc
  obtain ⟨hc2, g2, hg2⟩ := hok
  obtain ⟨hc3, g3, hg3⟩ := hog
  subst hg1 hg2 hg3
  generalize wC n.cells 40 = LC at *
  generalize wK n.keys 40 = LK at *
  generalize wG n.kids 40 = LG at *
  generalize n.cells.length = cn at *
  generalize n.keys.length = kn at *
  generalize n.kids.length = gn at *
  generalize n.leaf = lf at *
  obtain ⟨c4, hc4⟩ : ∃ c4, c4 = cn + 40 := ⟨_, rfl⟩
  obtain ⟨k4, hk4⟩ : ∃ k4, k4 = kn + 40 := ⟨_, rfl⟩
  obtain ⟨g4, hg4⟩ : ∃ g4, g4 = gn + 40 := ⟨_, rfl⟩
  have HW1 := hide (wrap_40 hb1 hc4)
  have HW2 := hide (wrap_40 hb2 hk4)
  have HW3 := hide (wrap_40 hb3 hg4)
  have hc1 : c4 ≤ dc := by rw [hc4]; exact hc1
  have hc2 : k4 ≤ lc := by rw [hk4]; exact hc2
  have hc3 : g4 ≤ hc := by rw [hg4]; exact hc3
  have e1 := cutC g1 0 cn dc c4 hc1 (by omega)
  have e2 := cutK g2 0 kn lc k4 hc2 (by omega)
  have e3 := cutG g3 0 gn hc g4 hc3 (by omega)
  have hb4 : (c4 : Int) ≤ 35184372087848 := by omega
  have hb5 : (k4 : Int) ≤ 35184372087848 := by omega
  have hb6 : (g4 : Int) ≤ 35184372087848 := by omega
  rw [← hc4] at HLC HOP
  rw [← hk4] at HLK HOP
  rw [← hg4] at HLG HOP
  have HC4 := hide hc4
  have HK4 := hide hk4
  have HG4 := hide hg4
  clear hc4 hk4 hg4 hb1 hb2 hb3
  cases lf
  all_goals
    go_enter Try.func22, Try.ntmps22
    go_wp2_with (first
      | ((with_reducible refine wpList_box_node (by rfl) (.tmp 0) (by rfl) (some 2) (by rfl) N (unhide HN) _ (some ⟨g1, 0, none⟩) cn dc (some ⟨g2, 0, none⟩) kn lc (some ⟨g3, 0, none⟩) gn hc (by with_unfolding_all rfl) ?_); intro W0 HX0 HB0 HS0; simp only [Act.put, List.setIfInBounds_toArray, List.set_cons_zero, List.set_cons_succ])
      | ((with_reducible refine wpList_box_node (by rfl) (.tmp 1) (by rfl) (some 3) (by rfl) (N + 1) (unhide HS0).symm _ ca cn cc ka kn kc ga gn gc (by with_unfolding_all rfl) ?_); intro W1 HX1 HB1 HS1; simp only [Act.put, List.setIfInBounds_toArray, List.set_cons_zero, List.set_cons_succ]; have HX0b := hide ((((unhide HB1).block N (Nat.lt_succ_self _)).trans (unhide HX0))); obtain ⟨z0, z1, z2, z3⟩ := box4 (unhide HX1); obtain ⟨y0, y1, y2, y3⟩ := box4 (unhide HX0b))
      | fail)
    have HBL1 : Hid (Below N u W1) := (unhide HB0).trans ((unhide HB1).mono (Nat.le_succ _))
    refine (unhide H2 W1 (unhide HBL1)).mono ?_
    rintro e W2 ⟨b2, rfl, hle, hb2'⟩
    have HBL2 : Hid (Below N u W2) := (unhide HBL1).trans (hb2'.mono (by rw [unhide HS1]; omega))
    have HX0c := hide (box_below (unhide HX0b) hb2')
    have HX1c := hide (box_below (unhide HX1) hb2')
    obtain ⟨⟨p1, q1, r1⟩, ⟨p2, q2, r2⟩, ⟨p3, q3, r3⟩, l1, l2, l3⟩ := unhide HOP W2 _ b2 hle
    have HM1 := hide l1
    have HM2 := hide l2
    have HM3 := hide l3
    rw [unhide HV b2]
    obtain ⟨xa, xc, ya, yc, za, zc⟩ := b2
    subst r1 r2 r3
    have p1 : c4 ≤ xc := p1
    have p2 : k4 ≤ yc := p2
    have p3 : g4 ≤ zc := p3
    have f1 := cutC q1 0 cn xc c4 p1 (by have := unhide HC4; omega)
    have f2 := cutK q2 0 kn yc k4 p2 (by have := unhide HK4; omega)
    have f3 := cutG q3 0 gn zc g4 p3 (by have := unhide HG4; omega)
    clear l1 l2 l3 hle hb2' y0 y1 y2 y3 z0 z1 z2 z3
    obtain ⟨M, hM⟩ : ∃ M, M = W2.heap.size := ⟨_, rfl⟩
    have HM := hide hM
    have HMN : Hid (N + 2 ≤ M) := by have := (Array.getElem?_eq_some_iff.1 (unhide HX1c)).1; rw [show M = W2.heap.size from hM]; exact this
    clear hM
    obtain ⟨hw1, hw2⟩ := unhide HW1
    go_wp2_with (first
      | ((with_reducible refine wpList_alloc_node (by rfl) (by rfl) (some 5) (by rfl) M (unhide HM) ?_); intro W3 HX3 HB3 HS3; simp only [Act.put, List.setIfInBounds_toArray, List.set_cons_zero, List.set_cons_succ])
      | ((with_reducible refine wpList_store_node (by rfl) (.tmp 5) (.tmp 48) (by rfl) M _ (some ⟨q1, 0, none⟩) cn xc (some ⟨q2, 0, none⟩) kn yc (some ⟨q3, 0, none⟩) gn zc (by with_unfolding_all rfl) (by with_unfolding_all rfl) (unhide HX3) ?_); intro W4 HX4 HE4; simp only [Act.put]; have HB24 : Hid (Below W2.heap.size W2 W4) := (by rw [unhide HE4, ← unhide HM]; exact belowRow (unhide HB3) (Nat.le_refl _) _); obtain ⟨x0, x1, x2, x3⟩ := box4 (unhide HX4); have HX0d := hide (box_below (unhide HX0c) (unhide HB24)); have HX1d := hide (box_below (unhide HX1c) (unhide HB24)); obtain ⟨z0, z1, z2, z3⟩ := box4 (unhide HX1d); obtain ⟨y0, y1, y2, y3⟩ := box4 (unhide HX0d))
      | fail)
    have HB4 : Hid (Below N u W4) := (unhide HBL2).trans ((unhide HB24).mono (by have := unhide HMN; rw [← unhide HM]; omega))
    have HC1 := hide ((unhide HC).below (by rw [← unhide HN]; exact unhide HB4))
    have HK1 := hide ((unhide HK).below (by rw [← unhide HN]; exact unhide HB4))
    have HG1 := hide ((unhide HG).below (by rw [← unhide HN]; exact unhide HB4))
    have HD1 := hide ((unhide HM1).below (unhide HB24))
    have HL1 := hide ((unhide HM2).below (unhide HB24))
    have HH1 := hide ((unhide HM3).below (unhide HB24))
    clear HX0 HB0 HS0 HX1 HB1 HS1 HX0b HBL1 HBL2 HX0c HX1c HX3 HB3 HS3 HE4 HB24 HC HK HG HM1 HM2 HM3 H2 HOP HM HMN hw1 hw2 e1 f1
    go_loopw [8] (fun i wr => ∃ k : Nat, k ≤ c4 ∧ i = .int .i64 k ∧ Hid (∃ z, wr = W4.drewN z)) (fun i _ => c4 - (intOf i).toNat)
    case atStart => exact ⟨0, Nat.zero_le _, rfl, 0, rfl⟩
    case round =>
      obtain ⟨k, hkk, rfl, HI⟩ := hrel
      obtain ⟨zk, rfl⟩ := unhide HI
      clear HI
      by_cases hltk : k < c4
      · have hki : (k : Int) < (c4 : Int) := by omega
        have hkl : k < LC.length := by rw [unhide HLC]; exact hltk
        obtain ⟨g, o, hao, c1, c2⟩ := (unhide HC1).cl hkl
        obtain ⟨j2, o2, hao2, d1, d2⟩ := (unhide HD1).cl hkl
        have hao : some (Addr.mk g1 0 none) = some ⟨g, o, none⟩ := hao
        have hao2 : some (Addr.mk q1 0 none) = some ⟨j2, o2, none⟩ := hao2
        cases hao
        cases hao2
        have hix := ixCells g1 0 c4 dc k hltk
        have hix2 := ixCells q1 0 c4 xc k hltk
        generalize LC[k] = q at *
        clear hkl
        obtain ⟨q, p⟩ := q
        have c1 : W4.cell? ⟨g1, 0 + k * 2, none⟩ = some (.string q) := c1
        have c2 : W4.cell? ⟨g1, 0 + k * 2 + 1, none⟩ = some (.string p) := c2
        have d1 : W4.cell? ⟨q1, 0 + k * 2, none⟩ = some (.string q) := d1
        have d2 : W4.cell? ⟨q1, 0 + k * 2 + 1, none⟩ = some (.string p) := d2
        generalize 0 + k * 2 = j1 at *
        have heq : ∀ W : World, (binOp .neq 66 (.agg #[.string q, .string p]) (.agg #[.string q, .string p])).run Try.prog W = .ok (.bool false) W := fun W => by rw [neqCl]; simp
        go_wp2_with fail
        go_quiet (fail)
        go_wp2
        go_roundw
        case rel => exact ⟨k + 1, by omega, by go_num, zk + nq, rfl⟩
        case measure => simp [intOf]; omega
      · obtain rfl : k = c4 := by omega
        have hki : ¬ (k : Int) < (k : Int) := by omega
        obtain ⟨hw3, hw4⟩ := unhide HW2
        go_wp2_with fail
        clear hw3 hw4 e2 f2
        go_loopw [11] (fun i wr => ∃ k : Nat, k ≤ k4 ∧ i = .int .i64 k ∧ Hid (∃ z, wr = W4.drewN z)) (fun i _ => k4 - (intOf i).toNat)
        case atStart => exact ⟨0, Nat.zero_le _, rfl, zk, rfl⟩
        case round =>
          obtain ⟨m, hkm, rfl, HI⟩ := hrel
          obtain ⟨zm, rfl⟩ := unhide HI
          clear HI
          by_cases hltm : m < k4
          · have hki : (m : Int) < (k4 : Int) := by omega
            have hkl : m < LK.length := by rw [unhide HLK]; exact hltm
            obtain ⟨g, o, hao, c1⟩ := (unhide HK1).ky hkl
            obtain ⟨j2, o2, hao2, d1⟩ := (unhide HL1).ky hkl
            have hao : some (Addr.mk g2 0 none) = some ⟨g, o, none⟩ := hao
            have hao2 : some (Addr.mk q2 0 none) = some ⟨j2, o2, none⟩ := hao2
            cases hao
            cases hao2
            have hix := ixStrs g2 0 k4 lc m hltm
            have hix2 := ixStrs q2 0 k4 yc m hltm
            generalize LK[m] = q at *
            clear hkl
            generalize 0 + m = j1 at *
            go_wp2_with fail
            go_quiet (fail)
            go_wp2
            go_roundw
            case rel => exact ⟨m + 1, by omega, by go_num, zm + nq, rfl⟩
            case measure => simp [intOf]; omega
          · obtain rfl : m = k4 := by omega
            have hki : ¬ (m : Int) < (m : Int) := by omega
            obtain ⟨hw5, hw6⟩ := unhide HW3
            go_wp2_with fail
            clear hw5 hw6 e3 f3
            go_loopw [14] (fun i wr => ∃ k : Nat, k ≤ g4 ∧ i = .int .i64 k ∧ Hid (∃ z, wr = W4.drewN z)) (fun i _ => g4 - (intOf i).toNat)
            case atStart => exact ⟨0, Nat.zero_le _, rfl, zm, rfl⟩
            case round =>
              obtain ⟨r, hkr, rfl, HI⟩ := hrel
              obtain ⟨zr, rfl⟩ := unhide HI
              clear HI
              by_cases hltr : r < g4
              · have hki : (r : Int) < (g4 : Int) := by omega
                have hkl : r < LG.length := by rw [unhide HLG]; exact hltr
                obtain ⟨g, o, hao, c1⟩ := (unhide HG1).kd hkl
                obtain ⟨j2, o2, hao2, d1⟩ := (unhide HH1).kd hkl
                have hao : some (Addr.mk g3 0 none) = some ⟨g, o, none⟩ := hao
                have hao2 : some (Addr.mk q3 0 none) = some ⟨j2, o2, none⟩ := hao2
                cases hao
                cases hao2
                have hix := ixKids g3 0 g4 hc r hltr
                have hix2 := ixKids q3 0 g4 zc r hltr
                generalize LG[r] = q at *
                clear hkl
                generalize 0 + r = j1 at *
                go_wp2_with fail
                go_quiet (fail)
                go_wp2
                go_roundw
                case rel => exact ⟨r + 1, by omega, by go_num, zr + nq, rfl⟩
                case measure => simp [intOf]; omega
              · obtain rfl : r = g4 := by omega
                have hki : ¬ (r : Int) < (r : Int) := by omega
                go_wp2
                go_ret
                exact ⟨rfl, belowDrewN (unhide HB4) _⟩
end Go.Proofs.Ytppmpomfihalfaa
