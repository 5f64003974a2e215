/- Nodes, the document's side: Check. -/
import Derived.Test.YtppmpomfihalfaaNre
namespace Go.Proofs.Ytppmpomfihalfaa
open Go.RowKit

theorem rises_nil : rises [] := fun i h => by simp at h
theorem Nd.up_keys {n : Nd} (hk : n.Kind) : rises (n.cells.map Cl.key ++ n.keys) ↔ n.Up := by
  obtain ⟨lf, cs, ks, gs⟩ := n
  cases lf
  · have h : cs.length = 0 := hk.2.1
    obtain rfl := List.eq_nil_of_length_eq_zero h
    exact ⟨fun h => ⟨rises_nil, h⟩, fun h => h.2⟩
  · have h : ks.length = 0 := hk.1
    obtain rfl := List.eq_nil_of_length_eq_zero h
    show rises (cs.map Cl.key ++ []) ↔ _
    rw [List.append_nil]
    exact ⟨fun h => ⟨h, rises_nil⟩, fun h => h.1⟩
theorem Nd.kind_sum {n : Nd} (hb : n.cells.length ≤ 4398046511104 ∧ n.keys.length ≤ 8796093022208) (hk : n.Kind) : n.cells.length + n.keys.length ≤ 8796093022208 := by
  unfold Nd.Kind at hk
  split at hk
  · omega
  · omega
open Classical in
set_option maxRecDepth 100000 in
set_option maxHeartbeats 2000000 in
theorem rCheck (n : Nd) (a : Nv) (u : World) (h : NdAt u n a) (hb : n.Kind → n.cells.length + n.keys.length ≤ 8796093022208) : Calls Try.prog 19 #[a.v n] u fun e u' => e = .returned (.int .i64 n.check) ∧ Below u.heap.size u u' := by
  have H1 := hide (fun (v : World) (hb : Below u.heap.size u v) => rShaped n a v (h.below hb))
  have H2 := hide (fun (v : World) (hb : Below u.heap.size u v) => rSmall n a v (h.below hb))
  have H3 := hide (fun (hk : n.Kind) (v : World) (hv : Below u.heap.size u v) => rKeys n a v (h.below hv) (hb hk))
  obtain ⟨L, hL⟩ : ∃ L, L = n.cells.map Cl.key ++ n.keys := ⟨_, rfl⟩
  have hLn : L.length ≤ 2 * 140737488355328 := by rw [hL, List.length_append, List.length_map]; have := h.len; omega
  have H3b := hide (fun (ao : Option Addr) (cp : Nat) (v : World) (hv : Lies v ao (flatK L)) => rRise L ao cp v hv hLn)
  have HUP := hide (Nd.up_keys (n := n))
  rw [← hL] at H3 HUP
  clear hLn hL hb
  have H4 := hide (fun (hs : n.Small) (v : World) (hb : Below u.heap.size u v) => rLong n a hs v (h.below hb))
  clear h
  obtain ⟨N, hN⟩ : ∃ N, N = u.heap.size := ⟨_, rfl⟩
  have HN := hide hN
  rw [← hN] at H1 H2 H3 H4 ⊢
  clear hN
  obtain ⟨r, hr⟩ : ∃ r, r = n.check := ⟨_, rfl⟩
  rw [← hr]
  unfold Nd.check at hr
  obtain ⟨b1, hb1⟩ : ∃ b, b = decide n.Kind := ⟨_, rfl⟩
  obtain ⟨b2, hb2⟩ : ∃ b, b = decide n.Small := ⟨_, rfl⟩
  obtain ⟨b3, hb3⟩ : ∃ b, b = decide (rises L) := ⟨_, rfl⟩
  rw [← hb1] at H1
  rw [← hb2] at H2
  rw [← hb3] at H3b
  replace hb1 : b1 = true ↔ n.Kind := by rw [hb1]; exact decide_eq_true_iff
  replace hb2 : b2 = true ↔ n.Small := by rw [hb2]; exact decide_eq_true_iff
  replace hb3 : n.Kind → (b3 = true ↔ n.Up) := fun hk => by rw [hb3]; exact decide_eq_true_iff.trans (unhide HUP hk)
  have HB1 := hide hb1
  have HB2 := hide hb2
  have HB3 := hide hb3
  have HR := hide hr
  obtain ⟨sz, hsz⟩ : ∃ sz, sz = n.size := ⟨_, rfl⟩
  rw [← hsz] at H4
  have HS := hide hsz
  clear hb1 hb2 hb3 hr hsz
  obtain ⟨ca, cc, ka, kc, ga, gc⟩ := a
  obtain ⟨lf, cs, ks, gs⟩ := n
  generalize hcn : cs.length = cn
  generalize hkn : ks.length = kn
  generalize hgn : gs.length = gn
  have K1 : Hid (∀ v : World, Below N u v → Calls Try.prog 73 #[.agg #[.bool lf, .slice ca cn cc, .slice ka kn kc, .slice ga gn gc]] v fun e u' => e = .returned (.bool b1) ∧ Below v.heap.size v u') := by rw [← hcn, ← hkn, ← hgn]; exact unhide H1
  have K2 : Hid (∀ v : World, Below N u v → Calls Try.prog 74 #[.agg #[.bool lf, .slice ca cn cc, .slice ka kn kc, .slice ga gn gc]] v fun e u' => e = .returned (.bool b2) ∧ Below v.heap.size v u') := by rw [← hcn, ← hkn, ← hgn]; exact unhide H2
  obtain ⟨ln, hln⟩ : ∃ ln, ln = L.length := ⟨_, rfl⟩
  rw [← hln] at H3 H3b
  have K3 : Hid (Nd.Kind ⟨lf, cs, ks, gs⟩ → ∀ v : World, Below N u v → Calls Try.prog 76 #[.agg #[.bool lf, .slice ca cn cc, .slice ka kn kc, .slice ga gn gc]] v fun e u' => ∃ ao cp, e = .returned (.slice ao ln cp) ∧ Below v.heap.size v u' ∧ Lies u' ao (flatK L)) := by rw [← hcn, ← hkn, ← hgn]; exact unhide H3
  clear hln HUP
  have K4 : Hid (b2 = true → ∀ v : World, Below N u v → Calls Try.prog 61 #[.agg #[.bool lf, .slice ca cn cc, .slice ka kn kc, .slice ga gn gc]] v fun e u' => e = .returned (.int .i64 (sz : Int)) ∧ Below v.heap.size v u') := by rw [← hcn, ← hkn, ← hgn]; exact fun hb => unhide H4 ((unhide HB2).1 hb)
  show Calls Try.prog 19 #[.agg #[.bool lf, .slice ca cs.length cc, .slice ka ks.length kc, .slice ga gs.length gc]] u _
  rw [hcn, hkn, hgn]
  clear H1 H2 H3 H4 hcn hkn hgn
  generalize Nd.mk lf cs ks gs = nn at *
  cases b1
  · obtain rfl : r = 80 := by
      rw [unhide HR, if_pos (fun h => by have := (unhide HB1).2 h; cases this)]
    clear HR HB1 HB2 HB3 HS K2 K3 K4 H3b
    go_enter Try.func19, Try.ntmps19
    go_wp2_with (first
      | (with_reducible refine wpList_box_node (by rfl) (.tmp 0) (by rfl) (some 1) (by rfl) N (unhide HN) lf ca cn cc ka kn kc ga gn gc (by with_unfolding_all rfl) ?_; intro W1 HX1 HW1 HS1; simp only [Act.put, List.setIfInBounds_toArray, List.set_cons_zero, List.set_cons_succ]; obtain ⟨y0, y1, y2, y3⟩ := box4 (unhide HX1))
      | fail)
    have HNW : Hid (N ≤ W1.heap.size) := by rw [unhide HS1]; exact Nat.le_succ _
    clear HS1
    refine (unhide K1 _ (unhide HW1)).mono ?_
    rintro e W2 ⟨rfl, hb2⟩
    have HW2 := hide ((unhide HW1).trans (hb2.mono (unhide HNW)))
    have HX2 := hide (box_below (unhide HX1) hb2)
    have HNW2 : Hid (N ≤ W2.heap.size) := Nat.le_trans (unhide HNW) hb2.size
    clear hb2 y0 y1 y2 y3
    obtain ⟨y0, y1, y2, y3⟩ := box4 (unhide HX2)
    go_wp2
    go_ret
    exact ⟨rfl, unhide HW2⟩
  · have h1 : Nd.Kind nn := (unhide HB1).1 rfl
    replace K3 := hide (unhide K3 h1)
    cases b2
    · obtain rfl : r = 82 := by
        rw [unhide HR, if_neg (fun h => h h1), if_pos (fun h => by have := (unhide HB2).2 h; cases this)]
      clear HR HB1 HB2 HB3 HS K3 K4 h1 H3b
      go_enter Try.func19, Try.ntmps19
      go_wp2_with (first
        | (with_reducible refine wpList_box_node (by rfl) (.tmp 0) (by rfl) (some 1) (by rfl) N (unhide HN) lf ca cn cc ka kn kc ga gn gc (by with_unfolding_all rfl) ?_; intro W1 HX1 HW1 HS1; simp only [Act.put, List.setIfInBounds_toArray, List.set_cons_zero, List.set_cons_succ]; obtain ⟨y0, y1, y2, y3⟩ := box4 (unhide HX1))
        | fail)
      have HNW : Hid (N ≤ W1.heap.size) := by rw [unhide HS1]; exact Nat.le_succ _
      clear HS1
      refine (unhide K1 _ (unhide HW1)).mono ?_
      rintro e W2 ⟨rfl, hb2⟩
      have HW2 := hide ((unhide HW1).trans (hb2.mono (unhide HNW)))
      have HX2 := hide (box_below (unhide HX1) hb2)
      have HNW2 : Hid (N ≤ W2.heap.size) := Nat.le_trans (unhide HNW) hb2.size
      clear hb2 y0 y1 y2 y3
      obtain ⟨y0, y1, y2, y3⟩ := box4 (unhide HX2)
      go_wp2_with fail
      refine (unhide K2 _ (unhide HW2)).mono ?_
      rintro e W3 ⟨rfl, hb3⟩
      have HW3 := hide ((unhide HW2).trans (hb3.mono (unhide HNW2)))
      have HX3 := hide (box_below (unhide HX2) hb3)
      have HNW3 : Hid (N ≤ W3.heap.size) := Nat.le_trans (unhide HNW2) hb3.size
      clear hb3 y0 y1 y2 y3
      obtain ⟨y0, y1, y2, y3⟩ := box4 (unhide HX3)
      go_wp2
      go_ret
      exact ⟨rfl, unhide HW3⟩
    · have h2 : Nd.Small nn := (unhide HB2).1 rfl
      cases b3
      · obtain rfl : r = 81 := by
          rw [unhide HR, if_neg (fun h => h h1), if_neg (fun h => h h2), if_pos (fun h => by have := (unhide HB3 h1).2 h; cases this)]
        clear HR HB1 HB2 HB3 HS K4 h1 h2
        go_enter Try.func19, Try.ntmps19
        go_wp2_with (first
          | (with_reducible refine wpList_box_node (by rfl) (.tmp 0) (by rfl) (some 1) (by rfl) N (unhide HN) lf ca cn cc ka kn kc ga gn gc (by with_unfolding_all rfl) ?_; intro W1 HX1 HW1 HS1; simp only [Act.put, List.setIfInBounds_toArray, List.set_cons_zero, List.set_cons_succ]; obtain ⟨y0, y1, y2, y3⟩ := box4 (unhide HX1))
          | fail)
        have HNW : Hid (N ≤ W1.heap.size) := by rw [unhide HS1]; exact Nat.le_succ _
        clear HS1
        refine (unhide K1 _ (unhide HW1)).mono ?_
        rintro e W2 ⟨rfl, hb2⟩
        have HW2 := hide ((unhide HW1).trans (hb2.mono (unhide HNW)))
        have HX2 := hide (box_below (unhide HX1) hb2)
        have HNW2 : Hid (N ≤ W2.heap.size) := Nat.le_trans (unhide HNW) hb2.size
        clear hb2 y0 y1 y2 y3
        obtain ⟨y0, y1, y2, y3⟩ := box4 (unhide HX2)
        go_wp2_with fail
        refine (unhide K2 _ (unhide HW2)).mono ?_
        rintro e W3 ⟨rfl, hb3⟩
        have HW3 := hide ((unhide HW2).trans (hb3.mono (unhide HNW2)))
        have HX3 := hide (box_below (unhide HX2) hb3)
        have HNW3 : Hid (N ≤ W3.heap.size) := Nat.le_trans (unhide HNW2) hb3.size
        clear hb3 y0 y1 y2 y3
        obtain ⟨y0, y1, y2, y3⟩ := box4 (unhide HX3)
        go_wp2_with fail
        refine (unhide K3 _ (unhide HW3)).mono ?_
        rintro e W8 ⟨ao8, cp8, rfl, hb8, hl8⟩
        have HK8 := hide (unhide H3b ao8 cp8 W8 hl8)
        have HB8 := hide hb8
        have HX8 := hide (box_below (unhide HX3) hb8)
        clear hb8 hl8 y0 y1 y2 y3
        obtain ⟨y0, y1, y2, y3⟩ := box4 (unhide HX8)
        go_wp2_with fail
        refine (unhide HK8).mono ?_
        rintro e W4 ⟨rfl, hb4'⟩
        have hb4 := (unhide HB8).trans (hb4'.mono (unhide HB8).size)
        clear hb4' HK8 HB8 HX8
        have HW4 := hide ((unhide HW3).trans (hb4.mono (unhide HNW3)))
        have HX4 := hide (box_below (unhide HX3) hb4)
        have HNW4 : Hid (N ≤ W4.heap.size) := Nat.le_trans (unhide HNW3) hb4.size
        clear hb4 y0 y1 y2 y3
        obtain ⟨y0, y1, y2, y3⟩ := box4 (unhide HX4)
        go_wp2
        go_ret
        exact ⟨rfl, unhide HW4⟩
      · have h3 : Nd.Up nn := (unhide HB3 h1).1 rfl
        by_cases h4 : 1992 < sz
        · obtain rfl : r = 82 := by
            rw [unhide HR, if_neg (fun h => h h1), if_neg (fun h => h h2), if_neg (fun h => h h3), if_pos (by rw [← unhide HS]; exact h4)]
          have h4i : (1992 : Int) < (sz : Int) := by omega
          clear HR HB1 HB2 HB3 HS h1 h2 h3 h4
          go_enter Try.func19, Try.ntmps19
          go_wp2_with (first
            | (with_reducible refine wpList_box_node (by rfl) (.tmp 0) (by rfl) (some 1) (by rfl) N (unhide HN) lf ca cn cc ka kn kc ga gn gc (by with_unfolding_all rfl) ?_; intro W1 HX1 HW1 HS1; simp only [Act.put, List.setIfInBounds_toArray, List.set_cons_zero, List.set_cons_succ]; obtain ⟨y0, y1, y2, y3⟩ := box4 (unhide HX1))
            | fail)
          have HNW : Hid (N ≤ W1.heap.size) := by rw [unhide HS1]; exact Nat.le_succ _
          clear HS1
          refine (unhide K1 _ (unhide HW1)).mono ?_
          rintro e W2 ⟨rfl, hb2⟩
          have HW2 := hide ((unhide HW1).trans (hb2.mono (unhide HNW)))
          have HX2 := hide (box_below (unhide HX1) hb2)
          have HNW2 : Hid (N ≤ W2.heap.size) := Nat.le_trans (unhide HNW) hb2.size
          clear hb2 y0 y1 y2 y3
          obtain ⟨y0, y1, y2, y3⟩ := box4 (unhide HX2)
          go_wp2_with fail
          refine (unhide K2 _ (unhide HW2)).mono ?_
          rintro e W3 ⟨rfl, hb3⟩
          have HW3 := hide ((unhide HW2).trans (hb3.mono (unhide HNW2)))
          have HX3 := hide (box_below (unhide HX2) hb3)
          have HNW3 : Hid (N ≤ W3.heap.size) := Nat.le_trans (unhide HNW2) hb3.size
          clear hb3 y0 y1 y2 y3
          obtain ⟨y0, y1, y2, y3⟩ := box4 (unhide HX3)
          go_wp2_with fail
          refine (unhide K3 _ (unhide HW3)).mono ?_
          rintro e W8 ⟨ao8, cp8, rfl, hb8, hl8⟩
          have HK8 := hide (unhide H3b ao8 cp8 W8 hl8)
          have HB8 := hide hb8
          have HX8 := hide (box_below (unhide HX3) hb8)
          clear hb8 hl8 y0 y1 y2 y3
          obtain ⟨y0, y1, y2, y3⟩ := box4 (unhide HX8)
          go_wp2_with fail
          refine (unhide HK8).mono ?_
          rintro e W4 ⟨rfl, hb4'⟩
          have hb4 := (unhide HB8).trans (hb4'.mono (unhide HB8).size)
          clear hb4' HK8 HB8 HX8
          have HW4 := hide ((unhide HW3).trans (hb4.mono (unhide HNW3)))
          have HX4 := hide (box_below (unhide HX3) hb4)
          have HNW4 : Hid (N ≤ W4.heap.size) := Nat.le_trans (unhide HNW3) hb4.size
          clear hb4 y0 y1 y2 y3
          obtain ⟨y0, y1, y2, y3⟩ := box4 (unhide HX4)
          go_wp2_with fail
          refine (unhide K4 trivial _ (unhide HW4)).mono ?_
          rintro e W5 ⟨rfl, hb5⟩
          have HW5 := hide ((unhide HW4).trans (hb5.mono (unhide HNW4)))
          have HX5 := hide (box_below (unhide HX4) hb5)
          have HNW5 : Hid (N ≤ W5.heap.size) := Nat.le_trans (unhide HNW4) hb5.size
          clear hb5 y0 y1 y2 y3
          obtain ⟨y0, y1, y2, y3⟩ := box4 (unhide HX5)
          go_wp2
          go_ret
          exact ⟨rfl, unhide HW5⟩
        · obtain rfl : r = 0 := by
            rw [unhide HR, if_neg (fun h => h h1), if_neg (fun h => h h2), if_neg (fun h => h h3), if_neg (by rw [← unhide HS]; exact h4)]
          have h4i : ¬ (1992 : Int) < (sz : Int) := by omega
          clear HR HB1 HB2 HB3 HS h1 h2 h3 h4
          go_enter Try.func19, Try.ntmps19
          go_wp2_with (first
            | (with_reducible refine wpList_box_node (by rfl) (.tmp 0) (by rfl) (some 1) (by rfl) N (unhide HN) lf ca cn cc ka kn kc ga gn gc (by with_unfolding_all rfl) ?_; intro W1 HX1 HW1 HS1; simp only [Act.put, List.setIfInBounds_toArray, List.set_cons_zero, List.set_cons_succ]; obtain ⟨y0, y1, y2, y3⟩ := box4 (unhide HX1))
            | fail)
          have HNW : Hid (N ≤ W1.heap.size) := by rw [unhide HS1]; exact Nat.le_succ _
          clear HS1
          refine (unhide K1 _ (unhide HW1)).mono ?_
          rintro e W2 ⟨rfl, hb2⟩
          have HW2 := hide ((unhide HW1).trans (hb2.mono (unhide HNW)))
          have HX2 := hide (box_below (unhide HX1) hb2)
          have HNW2 : Hid (N ≤ W2.heap.size) := Nat.le_trans (unhide HNW) hb2.size
          clear hb2 y0 y1 y2 y3
          obtain ⟨y0, y1, y2, y3⟩ := box4 (unhide HX2)
          go_wp2_with fail
          refine (unhide K2 _ (unhide HW2)).mono ?_
          rintro e W3 ⟨rfl, hb3⟩
          have HW3 := hide ((unhide HW2).trans (hb3.mono (unhide HNW2)))
          have HX3 := hide (box_below (unhide HX2) hb3)
          have HNW3 : Hid (N ≤ W3.heap.size) := Nat.le_trans (unhide HNW2) hb3.size
          clear hb3 y0 y1 y2 y3
          obtain ⟨y0, y1, y2, y3⟩ := box4 (unhide HX3)
          go_wp2_with fail
          refine (unhide K3 _ (unhide HW3)).mono ?_
          rintro e W8 ⟨ao8, cp8, rfl, hb8, hl8⟩
          have HK8 := hide (unhide H3b ao8 cp8 W8 hl8)
          have HB8 := hide hb8
          have HX8 := hide (box_below (unhide HX3) hb8)
          clear hb8 hl8 y0 y1 y2 y3
          obtain ⟨y0, y1, y2, y3⟩ := box4 (unhide HX8)
          go_wp2_with fail
          refine (unhide HK8).mono ?_
          rintro e W4 ⟨rfl, hb4'⟩
          have hb4 := (unhide HB8).trans (hb4'.mono (unhide HB8).size)
          clear hb4' HK8 HB8 HX8
          have HW4 := hide ((unhide HW3).trans (hb4.mono (unhide HNW3)))
          have HX4 := hide (box_below (unhide HX3) hb4)
          have HNW4 : Hid (N ≤ W4.heap.size) := Nat.le_trans (unhide HNW3) hb4.size
          clear hb4 y0 y1 y2 y3
          obtain ⟨y0, y1, y2, y3⟩ := box4 (unhide HX4)
          go_wp2_with fail
          refine (unhide K4 trivial _ (unhide HW4)).mono ?_
          rintro e W5 ⟨rfl, hb5⟩
          have HW5 := hide ((unhide HW4).trans (hb5.mono (unhide HNW4)))
          have HX5 := hide (box_below (unhide HX4) hb5)
          have HNW5 : Hid (N ≤ W5.heap.size) := Nat.le_trans (unhide HNW4) hb5.size
          clear hb5 y0 y1 y2 y3
          obtain ⟨y0, y1, y2, y3⟩ := box4 (unhide HX5)
          go_wp2
          go_ret
          exact ⟨rfl, unhide HW5⟩
end Go.Proofs.Ytppmpomfihalfaa
