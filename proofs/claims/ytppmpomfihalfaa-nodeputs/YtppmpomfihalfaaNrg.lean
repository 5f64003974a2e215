/- Nodes, the document's side: Same of two nodes that are alike. -/
import Derived.Test.YtppmpomfihalfaaNx
import Derived.Test.YtppmpomfihalfaaNrf
namespace Go.Proofs.Ytppmpomfihalfaa
open Go.RowKit

set_option maxRecDepth 100000 in
set_option maxHeartbeats 8000000 in
theorem rSame (n : Nd) (a b : Nv) (u : World) (h : NdAt u n a) (h2 : NdAt u n b) : Calls Try.prog 27 #[a.v n, b.v n] u fun e u' => e = .returned (.bool true) ∧ Below u.heap.size u u' := by
  obtain ⟨N, hN⟩ : ∃ N, N = u.heap.size := ⟨_, rfl⟩
  have HN := hide hN
  rw [← hN]
  clear hN
  obtain ⟨ca, cc, ka, kc, ga, gc⟩ := a
  obtain ⟨da, dc, la, lc, ha, hc⟩ := b
  obtain ⟨lf, cs, ks, gs⟩ := n
  show Calls Try.prog 27 #[.agg #[.bool lf, .slice ca cs.length cc, .slice ka ks.length kc, .slice ga gs.length gc], .agg #[.bool lf, .slice da cs.length dc, .slice la ks.length lc, .slice ha gs.length hc]] u _
  have hl : cs.length ≤ 140737488355328 ∧ ks.length ≤ 140737488355328 ∧ gs.length ≤ 140737488355328 := h.len
  have HC : Hid (Lies u ca (flatC cs)) := h.cells
  have HK : Hid (Lies u ka (flatK ks)) := h.keys
  have HG : Hid (Lies u ga (flatG gs)) := h.kids
  have HD : Hid (Lies u da (flatC cs)) := h2.cells
  have HL : Hid (Lies u la (flatK ks)) := h2.keys
  have HH : Hid (Lies u ha (flatG gs)) := h2.kids
  clear h h2
  obtain ⟨cn, hcn⟩ : ∃ cn, cn = cs.length := ⟨_, rfl⟩
  obtain ⟨kn, hkn⟩ : ∃ kn, kn = ks.length := ⟨_, rfl⟩
  obtain ⟨gn, hgn⟩ : ∃ gn, gn = gs.length := ⟨_, rfl⟩
  have HCN := hide hcn
  have HKN := hide hkn
  have HGN := hide hgn
  rw [← hcn, ← hkn, ← hgn] at hl ⊢
  have hcni : (cn : Int) ≤ 140737488355328 := by omega
  have hkni : (kn : Int) ≤ 140737488355328 := by omega
  have hgni : (gn : Int) ≤ 140737488355328 := by omega
  clear hcn hkn hgn hl
  cases lf
  all_goals
    go_enter Try.func27, Try.ntmps27
    go_wp2_with (first
      | ((with_reducible refine wpList_box_node (by rfl) (.tmp 0) (by rfl) (some 2) (by rfl) N (unhide HN) _ ca cn cc ka kn kc ga gn gc (by with_unfolding_all rfl) ?_); intro W0 HX0 HB0 HS0; simp only [Act.put, List.setIfInBounds_toArray, List.set_cons_zero, List.set_cons_succ])
      | ((with_reducible refine wpList_box_node (by rfl) (.tmp 1) (by rfl) (some 3) (by rfl) (N + 1) (unhide HS0).symm _ da cn dc la kn lc ha gn hc (by with_unfolding_all rfl) ?_); intro W1 HX1 HB1 HS1; simp only [Act.put, List.setIfInBounds_toArray, List.set_cons_zero, List.set_cons_succ]; obtain ⟨z0, z1, z2, z3⟩ := box4 (unhide HX1); obtain ⟨y0, y1, y2, y3⟩ := box4 ((((unhide HB1).block N (Nat.lt_succ_self _)).trans (unhide HX0))))
      | fail)
    have HB : Hid (Below N u W1) := (unhide HB0).trans ((unhide HB1).mono (Nat.le_succ _))
    have HC1 := hide ((unhide HC).below (by rw [← unhide HN]; exact unhide HB))
    have HK1 := hide ((unhide HK).below (by rw [← unhide HN]; exact unhide HB))
    have HG1 := hide ((unhide HG).below (by rw [← unhide HN]; exact unhide HB))
    have HD1 := hide ((unhide HD).below (by rw [← unhide HN]; exact unhide HB))
    have HL1 := hide ((unhide HL).below (by rw [← unhide HN]; exact unhide HB))
    have HH1 := hide ((unhide HH).below (by rw [← unhide HN]; exact unhide HB))
    clear HX0 HB0 HS0 HX1 HB1 HS1 HC HK HG HD HL HH
    go_loopw [5] (fun i wr => ∃ k : Nat, k ≤ cn ∧ i = .int .i64 k ∧ Hid (∃ z, wr = W1.drewN z)) (fun i _ => cn - (intOf i).toNat)
    case atStart => exact ⟨0, Nat.zero_le _, rfl, 0, rfl⟩
    case round =>
      obtain ⟨k, hkk, rfl, HI⟩ := hrel
      obtain ⟨zk, rfl⟩ := unhide HI
      clear HI
      by_cases hltk : k < cn
      · have hki : (k : Int) < (cn : Int) := by omega
        have hkl : k < cs.length := by rw [← unhide HCN]; exact hltk
        obtain ⟨g, o, hao, c1, c2⟩ := (unhide HC1).cl hkl
        obtain ⟨g2, o2, hao2, d1, d2⟩ := (unhide HD1).cl hkl
        subst hao hao2
        have hix := ixCells g o cn cc k hltk
        have hix2 := ixCells g2 o2 cn dc k hltk
        generalize cs[k] = q at *
        clear hkl
        obtain ⟨q, p⟩ := q
        have c1 : W1.cell? ⟨g, o + k * 2, none⟩ = some (.string q) := c1
        have c2 : W1.cell? ⟨g, o + k * 2 + 1, none⟩ = some (.string p) := c2
        have d1 : W1.cell? ⟨g2, o2 + k * 2, none⟩ = some (.string q) := d1
        have d2 : W1.cell? ⟨g2, o2 + k * 2 + 1, none⟩ = some (.string p) := d2
        generalize o + k * 2 = j1 at *
        generalize o2 + k * 2 = j2 at *
        have heq : ∀ W : World, (binOp .neq 66 (.agg #[.string q, .string p]) (.agg #[.string q, .string p])).run Try.prog W = .ok (.bool false) W := fun W => by rw [neqCl]; simp
        go_wp2_with fail
        go_quiet (fail)
        go_wp2
        go_roundw
        case rel => exact ⟨k + 1, by omega, by go_num, zk + nq, rfl⟩
        case measure => simp [intOf]; omega
      · obtain rfl : k = cn := by omega
        have hki : ¬ (k : Int) < (k : Int) := by omega
        go_wp2_with fail
        go_loopw [6] (fun i wr => ∃ k : Nat, k ≤ kn ∧ i = .int .i64 k ∧ Hid (∃ z, wr = W1.drewN z)) (fun i _ => kn - (intOf i).toNat)
        case atStart => exact ⟨0, Nat.zero_le _, rfl, zk, rfl⟩
        case round =>
          obtain ⟨m, hkm, rfl, HI⟩ := hrel
          obtain ⟨zm, rfl⟩ := unhide HI
          clear HI
          by_cases hltm : m < kn
          · have hki : (m : Int) < (kn : Int) := by omega
            have hkl : m < ks.length := by rw [← unhide HKN]; exact hltm
            obtain ⟨g, o, hao, c1⟩ := (unhide HK1).ky hkl
            obtain ⟨g2, o2, hao2, d1⟩ := (unhide HL1).ky hkl
            subst hao hao2
            have hix := ixStrs g o kn kc m hltm
            have hix2 := ixStrs g2 o2 kn lc m hltm
            generalize ks[m] = q at *
            clear hkl
            generalize o + m = j1 at *
            generalize o2 + m = j2 at *
            go_wp2_with fail
            go_quiet (fail)
            go_wp2
            go_roundw
            case rel => exact ⟨m + 1, by omega, by go_num, zm + nq, rfl⟩
            case measure => simp [intOf]; omega
          · obtain rfl : m = kn := by omega
            have hki : ¬ (m : Int) < (m : Int) := by omega
            go_wp2_with fail
            go_loopw [7] (fun i wr => ∃ k : Nat, k ≤ gn ∧ i = .int .i64 k ∧ Hid (∃ z, wr = W1.drewN z)) (fun i _ => gn - (intOf i).toNat)
            case atStart => exact ⟨0, Nat.zero_le _, rfl, zm, rfl⟩
            case round =>
              obtain ⟨r, hkr, rfl, HI⟩ := hrel
              obtain ⟨zr, rfl⟩ := unhide HI
              clear HI
              by_cases hltr : r < gn
              · have hki : (r : Int) < (gn : Int) := by omega
                have hkl : r < gs.length := by rw [← unhide HGN]; exact hltr
                obtain ⟨g, o, hao, c1⟩ := (unhide HG1).kd hkl
                obtain ⟨g2, o2, hao2, d1⟩ := (unhide HH1).kd hkl
                subst hao hao2
                have hix := ixKids g o gn gc r hltr
                have hix2 := ixKids g2 o2 gn hc r hltr
                generalize gs[r] = q at *
                clear hkl
                generalize o + r = j1 at *
                generalize o2 + r = j2 at *
                go_wp2_with fail
                go_quiet (fail)
                go_wp2
                go_roundw
                case rel => exact ⟨r + 1, by omega, by go_num, zr + nq, rfl⟩
                case measure => simp [intOf]; omega
              · obtain rfl : r = gn := by omega
                have hki : ¬ (r : Int) < (r : Int) := by omega
                go_wp2
                go_ret
                exact ⟨rfl, belowDrewN (unhide HB) _⟩
end Go.Proofs.Ytppmpomfihalfaa
