/- Nodes: keys that rise; Check. -/
import Derived.Test.YtppmpomfihalfaaNe
namespace Go.Proofs.Ytppmpomfihalfaa
open Go.RowKit

theorem risen_step {l : List ByteArray} {k : Nat} (h : risen l (k + 1)) (hk : k + 1 < l.length) (hlt : lt l[k] l[k + 1] = true) : risen l (k + 2) := fun i hi hik => by
  rcases Nat.lt_or_ge (i + 1) (k + 1) with h1 | h1
  · exact h i hi h1
  · obtain rfl : i = k := by omega
    exact hlt
open Classical in
set_option maxRecDepth 100000 in
set_option maxHeartbeats 4000000 in
theorem nUp (n : Nd) (a : Nv) (u : World) (h : NdAt u n a) : Calls Try.prog 72 #[a.v n] u fun e u' => e = .returned (.bool (decide n.Up)) ∧ Below u.heap.size u u' := by
  obtain ⟨N, hN⟩ : ∃ N, N = u.heap.size := ⟨_, rfl⟩
  have HN := hide hN
  rw [← hN]
  clear hN
  obtain ⟨ca, cc, ka, kc, ga, gc⟩ := a
  obtain ⟨lf, cs, ks, gs⟩ := n
  show Calls Try.prog 72 #[.agg #[.bool lf, .slice ca cs.length cc, .slice ka ks.length kc, .slice ga gs.length gc]] u _
  have hl : cs.length ≤ 140737488355328 ∧ ks.length ≤ 140737488355328 ∧ gs.length ≤ 140737488355328 := h.len
  have HC : Hid (Lies u ca (flatC cs)) := h.cells
  have HK : Hid (Lies u ka (flatK ks)) := h.keys
  clear h
  obtain ⟨r, hr⟩ : ∃ r, r = decide (Nd.Up ⟨lf, cs, ks, gs⟩) := ⟨_, rfl⟩
  rw [← hr]
  replace hr : r = true ↔ (rises (cs.map Cl.key) ∧ rises ks) := by rw [hr]; exact decide_eq_true_iff
  have HR := hide hr
  obtain ⟨cn, hcn⟩ : ∃ cn, cn = cs.length := ⟨_, rfl⟩
  obtain ⟨kn, hkn⟩ : ∃ kn, kn = ks.length := ⟨_, rfl⟩
  have HCN := hide hcn
  have HKN := hide hkn
  rw [← hcn, ← hkn] at hl ⊢
  generalize gs.length = gn at *
  have hcni : (cn : Int) ≤ 140737488355328 := by omega
  have hkni : (kn : Int) ≤ 140737488355328 := by omega
  clear hr hcn hkn hl
  go_enter Try.func72, Try.ntmps72
  go_wp2_with (first
    | (with_reducible refine wpList_box_node (by rfl) (.tmp 0) (by rfl) (some 1) (by rfl) N (unhide HN) lf ca cn cc ka kn kc ga gn gc (by with_unfolding_all rfl) ?_; intro W1 HX1 HB1 HS1; simp only [Act.put, List.setIfInBounds_toArray, List.set_cons_zero, List.set_cons_succ]; obtain ⟨y0, y1, y2, y3⟩ := box4 (unhide HX1))
    | fail)
  have HC1 : Hid (Lies W1 ca (flatC cs)) := (unhide HC).below (by rw [← unhide HN]; exact unhide HB1)
  have HK1 : Hid (Lies W1 ka (flatK ks)) := (unhide HK).below (by rw [← unhide HN]; exact unhide HB1)
  clear HC HK HX1 HS1
  go_loopw [3] (fun i wr => ∃ k : Nat, 1 ≤ k ∧ (k ≤ cn ∨ k = 1) ∧ i = .int .i64 k ∧ Hid (risen (cs.map Cl.key) k ∧ ∃ z, wr = W1.drewN z)) (fun i _ => cn + 1 - (intOf i).toNat)
  case atStart => exact ⟨1, Nat.le_refl _, .inr rfl, rfl, fun i _ h => by omega, 0, rfl⟩
  case round =>
    obtain ⟨k, hk1, hk, rfl, HI⟩ := hrel
    obtain ⟨hri, z, rfl⟩ := unhide HI
    have HRI := hide hri
    clear hri HI
    by_cases hlt : k < cn
    · have hki : (k : Int) < (cn : Int) := by omega
      have hkl : k < cs.length := by rw [← unhide HCN]; exact hlt
      obtain ⟨k', rfl⟩ : ∃ k', k = k' + 1 := ⟨k - 1, by omega⟩
      obtain ⟨g, o, hao, c2, d2⟩ := (unhide HC1).cl hkl
      obtain ⟨g1, o1, hao1, c1, d1⟩ := (unhide HC1).cl (i := k') (by omega)
      clear d1 d2
      rw [hao] at hao1
      simp only [Option.some.injEq, Addr.mk.injEq] at hao1
      obtain ⟨rfl, rfl, _⟩ := hao1
      subst hao
      have hw : wrap64 ((k' : Int) + 1 - 1) = (k' : Int) := by rw [Int.add_sub_cancel]; go_unwrap
      have hw2 : IntKind.i64.wrap ((k' : Int) + 1 - 1) = (k' : Int) := by rw [Int.add_sub_cancel, IntKind.wrap_i64]; omega
      have hw3 : IntKind.i64.wrap (k' : Int) = (k' : Int) := by rw [IntKind.wrap_i64]; omega
      have hix1 := ixCells g o cn cc k' (by omega)
      have hix2 : ∀ W : World, (Instr.indexAt 22 (.slice (some ⟨g, o, none⟩) cn cc) (.int .i64 ((k' : Int) + 1))).run Try.prog W = .ok (.pointer (some ⟨g, o + (k' + 1) * 2, none⟩)) W := fun W => ixCells g o cn cc (k' + 1) hlt W
      have HA : Hid (Op.bytesLess cs[k'].key.toList cs[k' + 1].key.toList = true → risen (cs.map Cl.key) (k' + 2)) := fun h => risen_step (unhide HRI) (by rw [List.length_map]; exact hkl) (by simpa [lt] using h)
      have HNA : Hid (Op.bytesLess cs[k'].key.toList cs[k' + 1].key.toList = false → r = false) := fun h => Bool.eq_false_iff.2 (fun hq => by
        have := ((unhide HR).1 hq).1 k' (by rw [List.length_map]; exact hkl) (by rw [List.length_map]; omega)
        simp [lt] at this
        rw [h] at this
        cases this)
      generalize cs[k'].key = a at *
      generalize cs[k' + 1].key = b at *
      generalize o + k' * 2 = j1 at *
      generalize o + (k' + 1) * 2 = j2 at *
      clear hkl HRI
      cases hab : Op.bytesLess a.toList b.toList
      · obtain rfl := unhide HNA hab
        clear HA HNA
        go_wp2_with fail
        go_quiet (fail)
        go_wp2
        go_ret
        exact ⟨rfl, belowDrewN (belowDrewN (unhide HB1) _) _⟩
      · have HX := hide (unhide HA hab)
        clear HA HNA
        go_wp2_with fail
        go_quiet (fail)
        go_wp2
        go_roundw
        case rel => exact ⟨k' + 1 + 1, by omega, by omega, by go_num, unhide HX, z + nq, rfl⟩
        case measure => simp [intOf]; omega
    · have hki : ¬ (k : Int) < (cn : Int) := by omega
      have HALL : Hid (rises (cs.map Cl.key)) := fun i hi _ => unhide HRI i hi (by rw [List.length_map] at hi; have := unhide HCN; omega)
      clear HRI
      go_wp2_with fail
      go_loopw [4] (fun i wq => ∃ k : Nat, 1 ≤ k ∧ (k ≤ kn ∨ k = 1) ∧ i = .int .i64 k ∧ Hid (risen ks k ∧ ∃ z, wq = W1.drewN z)) (fun i _ => kn + 1 - (intOf i).toNat)
      case atStart => exact ⟨1, Nat.le_refl _, .inr rfl, rfl, fun i _ h => by omega, z, rfl⟩
      case round =>
        obtain ⟨m, hm1, hm, rfl, HI⟩ := hrel
        obtain ⟨hri, z, rfl⟩ := unhide HI
        have HRI := hide hri
        clear hri HI
        by_cases hlt : m < kn
        · have hmi : (m : Int) < (kn : Int) := by omega
          have hkl : m < ks.length := by rw [← unhide HKN]; exact hlt
          obtain ⟨k', rfl⟩ : ∃ k', m = k' + 1 := ⟨m - 1, by omega⟩
          obtain ⟨g, o, hao, c2⟩ := (unhide HK1).ky hkl
          obtain ⟨g1, o1, hao1, c1⟩ := (unhide HK1).ky (i := k') (by omega)
          rw [hao] at hao1
          simp only [Option.some.injEq, Addr.mk.injEq] at hao1
          obtain ⟨rfl, rfl, _⟩ := hao1
          subst hao
          have hw : wrap64 ((k' : Int) + 1 - 1) = (k' : Int) := by rw [Int.add_sub_cancel]; go_unwrap
          have hw2 : IntKind.i64.wrap ((k' : Int) + 1 - 1) = (k' : Int) := by rw [Int.add_sub_cancel, IntKind.wrap_i64]; omega
          have hw3 : IntKind.i64.wrap (k' : Int) = (k' : Int) := by rw [IntKind.wrap_i64]; omega
          have hix1 := ixStrs g o kn kc k' (by omega)
          have hix2 : ∀ W : World, (Instr.indexAt 23 (.slice (some ⟨g, o, none⟩) kn kc) (.int .i64 ((k' : Int) + 1))).run Try.prog W = .ok (.pointer (some ⟨g, o + (k' + 1), none⟩)) W := fun W => ixStrs g o kn kc (k' + 1) hlt W
          have HA : Hid (Op.bytesLess ks[k'].toList ks[k' + 1].toList = true → risen ks (k' + 2)) := fun h => risen_step (unhide HRI) hkl h
          have HNA : Hid (Op.bytesLess ks[k'].toList ks[k' + 1].toList = false → r = false) := fun h => Bool.eq_false_iff.2 (fun hq => by
            have := ((unhide HR).1 hq).2 k' hkl hkl
            simp only [lt] at this
            rw [h] at this
            cases this)
          generalize ks[k'] = a at *
          generalize ks[k' + 1] = b at *
          generalize o + k' = j1 at *
          generalize o + (k' + 1) = j2 at *
          clear hkl HRI
          cases hab : Op.bytesLess a.toList b.toList
          · obtain rfl := unhide HNA hab
            clear HA HNA
            go_wp2_with fail
            go_quiet (fail)
            go_wp2
            go_ret
            exact ⟨rfl, belowDrewN (belowDrewN (unhide HB1) _) _⟩
          · have HX := hide (unhide HA hab)
            clear HA HNA
            go_wp2_with fail
            go_quiet (fail)
            go_wp2
            go_roundw
            case rel => exact ⟨k' + 1 + 1, by omega, by omega, by go_num, unhide HX, z + nq, rfl⟩
            case measure => simp [intOf]; omega
        · have hmi : ¬ (m : Int) < (kn : Int) := by omega
          obtain rfl : r = true := (unhide HR).2 ⟨unhide HALL, fun i hi _ => unhide HRI i hi (by have := unhide HKN; omega)⟩
          go_wp2
          go_ret
          exact ⟨rfl, belowDrewN (unhide HB1) _⟩
open Classical in
set_option maxRecDepth 100000 in
set_option maxHeartbeats 2000000 in
theorem nCheck (n : Nd) (a : Nv) (u : World) (h : NdAt u n a) : Calls Try.prog 18 #[a.v n] u fun e u' => e = .returned (.int .i64 n.check) ∧ Below u.heap.size u u' := by
  have H1 := hide (fun (v : World) (hb : Below u.heap.size u v) => nKind n a v (h.below hb))
  have H2 := hide (fun (v : World) (hb : Below u.heap.size u v) => nSmall n a v (h.below hb))
  have H3 := hide (fun (v : World) (hb : Below u.heap.size u v) => nUp n a v (h.below hb))
  have H4 := hide (fun (hs : n.Small) (v : World) (hb : Below u.heap.size u v) => nSize n a hs v (h.below hb))
  clear h
  obtain ⟨N, hN⟩ : ∃ N, N = u.heap.size := ⟨_, rfl⟩
  have HN := hide hN
  rw [← hN] at H1 H2 H3 H4 ⊢
  clear hN
  obtain ⟨r, hr⟩ : ∃ r, r = n.check := ⟨_, rfl⟩
  rw [← hr]
  unfold Nd.check at hr
  obtain ⟨b1, hb1⟩ : ∃ b, b = decide n.Kind := ⟨_, rfl⟩
  obtain ⟨b2, hb2⟩ : ∃ b, b = decide n.Small := ⟨_, rfl⟩
  obtain ⟨b3, hb3⟩ : ∃ b, b = decide n.Up := ⟨_, rfl⟩
  rw [← hb1] at H1
  rw [← hb2] at H2
  rw [← hb3] at H3
  replace hb1 : b1 = true ↔ n.Kind := by rw [hb1]; exact decide_eq_true_iff
  replace hb2 : b2 = true ↔ n.Small := by rw [hb2]; exact decide_eq_true_iff
  replace hb3 : b3 = true ↔ n.Up := by rw [hb3]; exact decide_eq_true_iff
  have HB1 := hide hb1
  have HB2 := hide hb2
  have HB3 := hide hb3
  have HR := hide hr
  obtain ⟨sz, hsz⟩ : ∃ sz, sz = n.size := ⟨_, rfl⟩
  rw [← hsz] at H4
  have HS := hide hsz
  clear hb1 hb2 hb3 hr hsz
  obtain ⟨ca, cc, ka, kc, ga, gc⟩ := a
  obtain ⟨lf, cs, ks, gs⟩ := n
  generalize hcn : cs.length = cn
  generalize hkn : ks.length = kn
  generalize hgn : gs.length = gn
  have K1 : Hid (∀ v : World, Below N u v → Calls Try.prog 70 #[.agg #[.bool lf, .slice ca cn cc, .slice ka kn kc, .slice ga gn gc]] v fun e u' => e = .returned (.bool b1) ∧ Below v.heap.size v u') := by rw [← hcn, ← hkn, ← hgn]; exact unhide H1
  have K2 : Hid (∀ v : World, Below N u v → Calls Try.prog 71 #[.agg #[.bool lf, .slice ca cn cc, .slice ka kn kc, .slice ga gn gc]] v fun e u' => e = .returned (.bool b2) ∧ Below v.heap.size v u') := by rw [← hcn, ← hkn, ← hgn]; exact unhide H2
  have K3 : Hid (∀ v : World, Below N u v → Calls Try.prog 72 #[.agg #[.bool lf, .slice ca cn cc, .slice ka kn kc, .slice ga gn gc]] v fun e u' => e = .returned (.bool b3) ∧ Below v.heap.size v u') := by rw [← hcn, ← hkn, ← hgn]; exact unhide H3
  have K4 : Hid (b2 = true → ∀ v : World, Below N u v → Calls Try.prog 65 #[.agg #[.bool lf, .slice ca cn cc, .slice ka kn kc, .slice ga gn gc]] v fun e u' => e = .returned (.int .i64 (sz : Int)) ∧ Below v.heap.size v u') := by rw [← hcn, ← hkn, ← hgn]; exact fun hb => unhide H4 ((unhide HB2).1 hb)
  show Calls Try.prog 18 #[.agg #[.bool lf, .slice ca cs.length cc, .slice ka ks.length kc, .slice ga gs.length gc]] u _
  rw [hcn, hkn, hgn]
  clear H1 H2 H3 H4 hcn hkn hgn
  generalize Nd.mk lf cs ks gs = nn at *
  cases b1
  · obtain rfl : r = 80 := by
      rw [unhide HR, if_pos (fun h => by have := (unhide HB1).2 h; cases this)]
    clear HR HB1 HB2 HB3 HS K2 K3 K4
    go_enter Try.func18, Try.ntmps18
    go_wp2_with (first
      | (with_reducible refine wpList_box_node (by rfl) (.tmp 0) (by rfl) (some 1) (by rfl) N (unhide HN) lf ca cn cc ka kn kc ga gn gc (by with_unfolding_all rfl) ?_; intro W1 HX1 HW1 HS1; simp only [Act.put, List.setIfInBounds_toArray, List.set_cons_zero, List.set_cons_succ]; obtain ⟨y0, y1, y2, y3⟩ := box4 (unhide HX1))
      | fail)
    have HNW : Hid (N ≤ W1.heap.size) := by rw [unhide HS1]; exact Nat.le_succ _
    clear HS1
    refine (unhide K1 _ (unhide HW1)).mono ?_
    rintro e W2 ⟨rfl, hb2⟩
    have HW2 := hide ((unhide HW1).trans (hb2.mono (unhide HNW)))
    have HX2 := hide (box_below (unhide HX1) hb2)
    have HNW2 : Hid (N ≤ W2.heap.size) := Nat.le_trans (unhide HNW) hb2.size
    clear hb2 y0 y1 y2 y3
    obtain ⟨y0, y1, y2, y3⟩ := box4 (unhide HX2)
    go_wp2
    go_ret
    exact ⟨rfl, unhide HW2⟩
  · have h1 : Nd.Kind nn := (unhide HB1).1 rfl
    cases b2
    · obtain rfl : r = 82 := by
        rw [unhide HR, if_neg (fun h => h h1), if_pos (fun h => by have := (unhide HB2).2 h; cases this)]
      clear HR HB1 HB2 HB3 HS K3 K4 h1
      go_enter Try.func18, Try.ntmps18
      go_wp2_with (first
        | (with_reducible refine wpList_box_node (by rfl) (.tmp 0) (by rfl) (some 1) (by rfl) N (unhide HN) lf ca cn cc ka kn kc ga gn gc (by with_unfolding_all rfl) ?_; intro W1 HX1 HW1 HS1; simp only [Act.put, List.setIfInBounds_toArray, List.set_cons_zero, List.set_cons_succ]; obtain ⟨y0, y1, y2, y3⟩ := box4 (unhide HX1))
        | fail)
      have HNW : Hid (N ≤ W1.heap.size) := by rw [unhide HS1]; exact Nat.le_succ _
      clear HS1
      refine (unhide K1 _ (unhide HW1)).mono ?_
      rintro e W2 ⟨rfl, hb2⟩
      have HW2 := hide ((unhide HW1).trans (hb2.mono (unhide HNW)))
      have HX2 := hide (box_below (unhide HX1) hb2)
      have HNW2 : Hid (N ≤ W2.heap.size) := Nat.le_trans (unhide HNW) hb2.size
      clear hb2 y0 y1 y2 y3
      obtain ⟨y0, y1, y2, y3⟩ := box4 (unhide HX2)
      go_wp2_with fail
      refine (unhide K2 _ (unhide HW2)).mono ?_
      rintro e W3 ⟨rfl, hb3⟩
      have HW3 := hide ((unhide HW2).trans (hb3.mono (unhide HNW2)))
      have HX3 := hide (box_below (unhide HX2) hb3)
      have HNW3 : Hid (N ≤ W3.heap.size) := Nat.le_trans (unhide HNW2) hb3.size
      clear hb3 y0 y1 y2 y3
      obtain ⟨y0, y1, y2, y3⟩ := box4 (unhide HX3)
      go_wp2
      go_ret
      exact ⟨rfl, unhide HW3⟩
    · have h2 : Nd.Small nn := (unhide HB2).1 rfl
      cases b3
      · obtain rfl : r = 81 := by
          rw [unhide HR, if_neg (fun h => h h1), if_neg (fun h => h h2), if_pos (fun h => by have := (unhide HB3).2 h; cases this)]
        clear HR HB1 HB2 HB3 HS K4 h1 h2
        go_enter Try.func18, Try.ntmps18
        go_wp2_with (first
          | (with_reducible refine wpList_box_node (by rfl) (.tmp 0) (by rfl) (some 1) (by rfl) N (unhide HN) lf ca cn cc ka kn kc ga gn gc (by with_unfolding_all rfl) ?_; intro W1 HX1 HW1 HS1; simp only [Act.put, List.setIfInBounds_toArray, List.set_cons_zero, List.set_cons_succ]; obtain ⟨y0, y1, y2, y3⟩ := box4 (unhide HX1))
          | fail)
        have HNW : Hid (N ≤ W1.heap.size) := by rw [unhide HS1]; exact Nat.le_succ _
        clear HS1
        refine (unhide K1 _ (unhide HW1)).mono ?_
        rintro e W2 ⟨rfl, hb2⟩
        have HW2 := hide ((unhide HW1).trans (hb2.mono (unhide HNW)))
        have HX2 := hide (box_below (unhide HX1) hb2)
        have HNW2 : Hid (N ≤ W2.heap.size) := Nat.le_trans (unhide HNW) hb2.size
        clear hb2 y0 y1 y2 y3
        obtain ⟨y0, y1, y2, y3⟩ := box4 (unhide HX2)
        go_wp2_with fail
        refine (unhide K2 _ (unhide HW2)).mono ?_
        rintro e W3 ⟨rfl, hb3⟩
        have HW3 := hide ((unhide HW2).trans (hb3.mono (unhide HNW2)))
        have HX3 := hide (box_below (unhide HX2) hb3)
        have HNW3 : Hid (N ≤ W3.heap.size) := Nat.le_trans (unhide HNW2) hb3.size
        clear hb3 y0 y1 y2 y3
        obtain ⟨y0, y1, y2, y3⟩ := box4 (unhide HX3)
        go_wp2_with fail
        refine (unhide K3 _ (unhide HW3)).mono ?_
        rintro e W4 ⟨rfl, hb4⟩
        have HW4 := hide ((unhide HW3).trans (hb4.mono (unhide HNW3)))
        have HX4 := hide (box_below (unhide HX3) hb4)
        have HNW4 : Hid (N ≤ W4.heap.size) := Nat.le_trans (unhide HNW3) hb4.size
        clear hb4 y0 y1 y2 y3
        obtain ⟨y0, y1, y2, y3⟩ := box4 (unhide HX4)
        go_wp2
        go_ret
        exact ⟨rfl, unhide HW4⟩
      · have h3 : Nd.Up nn := (unhide HB3).1 rfl
        by_cases h4 : 1992 < sz
        · obtain rfl : r = 82 := by
            rw [unhide HR, if_neg (fun h => h h1), if_neg (fun h => h h2), if_neg (fun h => h h3), if_pos (by rw [← unhide HS]; exact h4)]
          have h4i : (1992 : Int) < (sz : Int) := by omega
          clear HR HB1 HB2 HB3 HS h1 h2 h3 h4
          go_enter Try.func18, Try.ntmps18
          go_wp2_with (first
            | (with_reducible refine wpList_box_node (by rfl) (.tmp 0) (by rfl) (some 1) (by rfl) N (unhide HN) lf ca cn cc ka kn kc ga gn gc (by with_unfolding_all rfl) ?_; intro W1 HX1 HW1 HS1; simp only [Act.put, List.setIfInBounds_toArray, List.set_cons_zero, List.set_cons_succ]; obtain ⟨y0, y1, y2, y3⟩ := box4 (unhide HX1))
            | fail)
          have HNW : Hid (N ≤ W1.heap.size) := by rw [unhide HS1]; exact Nat.le_succ _
          clear HS1
          refine (unhide K1 _ (unhide HW1)).mono ?_
          rintro e W2 ⟨rfl, hb2⟩
          have HW2 := hide ((unhide HW1).trans (hb2.mono (unhide HNW)))
          have HX2 := hide (box_below (unhide HX1) hb2)
          have HNW2 : Hid (N ≤ W2.heap.size) := Nat.le_trans (unhide HNW) hb2.size
          clear hb2 y0 y1 y2 y3
          obtain ⟨y0, y1, y2, y3⟩ := box4 (unhide HX2)
          go_wp2_with fail
          refine (unhide K2 _ (unhide HW2)).mono ?_
          rintro e W3 ⟨rfl, hb3⟩
          have HW3 := hide ((unhide HW2).trans (hb3.mono (unhide HNW2)))
          have HX3 := hide (box_below (unhide HX2) hb3)
          have HNW3 : Hid (N ≤ W3.heap.size) := Nat.le_trans (unhide HNW2) hb3.size
          clear hb3 y0 y1 y2 y3
          obtain ⟨y0, y1, y2, y3⟩ := box4 (unhide HX3)
          go_wp2_with fail
          refine (unhide K3 _ (unhide HW3)).mono ?_
          rintro e W4 ⟨rfl, hb4⟩
          have HW4 := hide ((unhide HW3).trans (hb4.mono (unhide HNW3)))
          have HX4 := hide (box_below (unhide HX3) hb4)
          have HNW4 : Hid (N ≤ W4.heap.size) := Nat.le_trans (unhide HNW3) hb4.size
          clear hb4 y0 y1 y2 y3
          obtain ⟨y0, y1, y2, y3⟩ := box4 (unhide HX4)
          go_wp2_with fail
          refine (unhide K4 trivial _ (unhide HW4)).mono ?_
          rintro e W5 ⟨rfl, hb5⟩
          have HW5 := hide ((unhide HW4).trans (hb5.mono (unhide HNW4)))
          have HX5 := hide (box_below (unhide HX4) hb5)
          have HNW5 : Hid (N ≤ W5.heap.size) := Nat.le_trans (unhide HNW4) hb5.size
          clear hb5 y0 y1 y2 y3
          obtain ⟨y0, y1, y2, y3⟩ := box4 (unhide HX5)
          go_wp2
          go_ret
          exact ⟨rfl, unhide HW5⟩
        · obtain rfl : r = 0 := by
            rw [unhide HR, if_neg (fun h => h h1), if_neg (fun h => h h2), if_neg (fun h => h h3), if_neg (by rw [← unhide HS]; exact h4)]
          have h4i : ¬ (1992 : Int) < (sz : Int) := by omega
          clear HR HB1 HB2 HB3 HS h1 h2 h3 h4
          go_enter Try.func18, Try.ntmps18
          go_wp2_with (first
            | (with_reducible refine wpList_box_node (by rfl) (.tmp 0) (by rfl) (some 1) (by rfl) N (unhide HN) lf ca cn cc ka kn kc ga gn gc (by with_unfolding_all rfl) ?_; intro W1 HX1 HW1 HS1; simp only [Act.put, List.setIfInBounds_toArray, List.set_cons_zero, List.set_cons_succ]; obtain ⟨y0, y1, y2, y3⟩ := box4 (unhide HX1))
            | fail)
          have HNW : Hid (N ≤ W1.heap.size) := by rw [unhide HS1]; exact Nat.le_succ _
          clear HS1
          refine (unhide K1 _ (unhide HW1)).mono ?_
          rintro e W2 ⟨rfl, hb2⟩
          have HW2 := hide ((unhide HW1).trans (hb2.mono (unhide HNW)))
          have HX2 := hide (box_below (unhide HX1) hb2)
          have HNW2 : Hid (N ≤ W2.heap.size) := Nat.le_trans (unhide HNW) hb2.size
          clear hb2 y0 y1 y2 y3
          obtain ⟨y0, y1, y2, y3⟩ := box4 (unhide HX2)
          go_wp2_with fail
          refine (unhide K2 _ (unhide HW2)).mono ?_
          rintro e W3 ⟨rfl, hb3⟩
          have HW3 := hide ((unhide HW2).trans (hb3.mono (unhide HNW2)))
          have HX3 := hide (box_below (unhide HX2) hb3)
          have HNW3 : Hid (N ≤ W3.heap.size) := Nat.le_trans (unhide HNW2) hb3.size
          clear hb3 y0 y1 y2 y3
          obtain ⟨y0, y1, y2, y3⟩ := box4 (unhide HX3)
          go_wp2_with fail
          refine (unhide K3 _ (unhide HW3)).mono ?_
          rintro e W4 ⟨rfl, hb4⟩
          have HW4 := hide ((unhide HW3).trans (hb4.mono (unhide HNW3)))
          have HX4 := hide (box_below (unhide HX3) hb4)
          have HNW4 : Hid (N ≤ W4.heap.size) := Nat.le_trans (unhide HNW3) hb4.size
          clear hb4 y0 y1 y2 y3
          obtain ⟨y0, y1, y2, y3⟩ := box4 (unhide HX4)
          go_wp2_with fail
          refine (unhide K4 trivial _ (unhide HW4)).mono ?_
          rintro e W5 ⟨rfl, hb5⟩
          have HW5 := hide ((unhide HW4).trans (hb5.mono (unhide HNW4)))
          have HX5 := hide (box_below (unhide HX4) hb5)
          have HNW5 : Hid (N ≤ W5.heap.size) := Nat.le_trans (unhide HNW4) hb5.size
          clear hb5 y0 y1 y2 y3
          obtain ⟨y0, y1, y2, y3⟩ := box4 (unhide HX5)
          go_wp2
          go_ret
          exact ⟨rfl, unhide HW5⟩
end Go.Proofs.Ytppmpomfihalfaa
