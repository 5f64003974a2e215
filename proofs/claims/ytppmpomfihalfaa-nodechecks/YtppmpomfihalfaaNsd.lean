/- Nodes, the document's side: Encode and Size. -/
import Derived.Test.YtppmpomfihalfaaNsc
namespace Go.Proofs.Ytppmpomfihalfaa
open Go.RowKit

/-- what Size answers -/
noncomputable def Nd.psz (n : Nd) : Int := if n.check = 0 then (n.size : Int) else 0
theorem nSizeF (n : Nd) (a : Nv) (u : World) (h : NdAt u n a) : Calls Try.prog 20 #[a.v n] u fun e u' => ∃ v, e = .returned v ∧ v = .int .i64 n.psz ∧ Below u.heap.size u u' := by
  refine (nSizeP n a u h).mono fun e w' hh => ⟨_, ?_, rfl, hh.2.2⟩
  unfold Nd.psz
  split
  · exact hh.1 ‹_›
  · exact hh.2.1 ‹_›
theorem Nd.Few.sumD {n : Nd} (h : n.Few) (hk : n.Kind) : n.cells.length + n.keys.length ≤ 8796093022208 := by
  have h1 := h.1
  have h2 := h.2.1
  unfold Nd.Kind at hk
  split at hk
  · omega
  · omega
set_option maxRecDepth 100000 in
set_option maxHeartbeats 4000000 in
theorem rSizeF (n : Nd) (a : Nv) (u : World) (h : NdAt u n a) (hf : n.Few) : Calls Try.prog 21 #[a.v n] u fun e u' => ∃ v, e = .returned v ∧ v = .int .i64 n.psz ∧ Below u.heap.size u u' := by
  have H1 := hide (fun (v : World) (hv : Below u.heap.size u v) => rCheck n a v (h.below hv) hf.sumD)
  have H2 := hide (fun (hs : n.Small) (v : World) (hv : Below u.heap.size u v) => rLong n a hs v (h.below hv))
  obtain ⟨N, hN⟩ : ∃ N, N = u.heap.size := ⟨_, rfl⟩
  have HN := hide hN
  rw [← hN] at H1 H2 ⊢
  clear hN h hf
  rw [Nv.v_eq] at H1 H2 ⊢
  obtain ⟨ca, cc, ka, kc, ga, gc⟩ := a
  by_cases hc : n.check = 0
  · have hp : n.psz = (n.size : Int) := by unfold Nd.psz; rw [if_pos hc]
    rw [hp]
    have H2 := hide (unhide H2 (Nd.check_zero.1 hc).small)
    rw [hc] at H1
    clear hc hp
    generalize n.size = sz at *
    generalize n.cells.length = cn at *
    generalize n.keys.length = kn at *
    generalize n.kids.length = gn at *
    generalize n.leaf = lf at *
    go_enter Try.func21, Try.ntmps21
    go_wp2_with (first
      | ((with_reducible refine wpList_box_node (by rfl) (.tmp 0) (by rfl) (some 1) (by rfl) N (unhide HN) lf ca cn cc ka kn kc ga gn gc (by with_unfolding_all rfl) ?_); intro W0 HX0 HB0 HS0; simp only [Act.put, List.setIfInBounds_toArray, List.set_cons_zero, List.set_cons_succ]; obtain ⟨y0, y1, y2, y3⟩ := box4 (unhide HX0))
      | fail)
    refine (unhide H1 _ (unhide HB0)).mono ?_
    rintro e W1 ⟨rfl, hb1⟩
    have HK1 := hide (Kb.below ⟨unhide HB0, unhide HX0⟩ hb1)
    clear hb1 HX0 HB0 HS0 y0 y1 y2 y3
    obtain ⟨y0, y1, y2, y3⟩ := box4 (unhide HK1).2
    go_wp2_with fail
    refine (unhide H2 _ (unhide HK1).1).mono ?_
    rintro e W2 ⟨rfl, hb2⟩
    have HK2 := hide ((unhide HK1).below hb2)
    clear hb2 HK1 y0 y1 y2 y3
    go_wp2
    go_ret
    exact ⟨_, rfl, rfl, (unhide HK2).1⟩
  · have hp : n.psz = 0 := by unfold Nd.psz; rw [if_neg hc]
    rw [hp]
    have hcb : (n.check == 0) = false := beq_false_of_ne hc
    clear H2 hp
    generalize n.check = c at *
    generalize n.cells.length = cn at *
    generalize n.keys.length = kn at *
    generalize n.kids.length = gn at *
    generalize n.leaf = lf at *
    go_enter Try.func21, Try.ntmps21
    go_wp2_with (first
      | ((with_reducible refine wpList_box_node (by rfl) (.tmp 0) (by rfl) (some 1) (by rfl) N (unhide HN) lf ca cn cc ka kn kc ga gn gc (by with_unfolding_all rfl) ?_); intro W0 HX0 HB0 HS0; simp only [Act.put, List.setIfInBounds_toArray, List.set_cons_zero, List.set_cons_succ]; obtain ⟨y0, y1, y2, y3⟩ := box4 (unhide HX0))
      | fail)
    refine (unhide H1 _ (unhide HB0)).mono ?_
    rintro e W1 ⟨rfl, hb1⟩
    have HK1 := hide (Kb.below ⟨unhide HB0, unhide HX0⟩ hb1)
    clear hb1 HX0 HB0 HS0 y0 y1 y2 y3
    go_wp2
    go_ret
    exact ⟨_, rfl, rfl, (unhide HK1).1⟩
set_option maxRecDepth 100000 in
set_option maxHeartbeats 4000000 in
theorem rEncode (n : Nd) (a : Nv) (u : World) (h : NdAt u n a) (hf : n.Few) : Calls Try.prog 16 #[a.v n] u fun e u' => e = .returned (.tuple #[.string n.enc.1, .int .i64 n.enc.2]) ∧ Below u.heap.size u u' := by
  have H1 := hide (fun (v : World) (hv : Below u.heap.size u v) => rCheck n a v (h.below hv) hf.sumD)
  have H2 := hide (fun (hs : n.Small) (v : World) (hv : Below u.heap.size u v) => rLong n a hs v (h.below hv))
  have H3 := hide (fun (hs : n.Ok) (v : World) (hv : Below u.heap.size u v) => rBody n a v (h.below hv) hs)
  obtain ⟨N, hN⟩ : ∃ N, N = u.heap.size := ⟨_, rfl⟩
  have HN := hide hN
  rw [← hN] at H1 H2 H3 ⊢
  clear hN h hf
  rw [Nv.v_eq] at H1 H2 H3 ⊢
  obtain ⟨ca, cc, ka, kc, ga, gc⟩ := a
  by_cases hc : n.check = 0
  · have H2 := hide (unhide H2 (Nd.check_zero.1 hc).small)
    have H3 := hide (unhide H3 (Nd.check_zero.1 hc))
    rw [hc] at H1
    by_cases hz : 996 < n.size
    · have hp : n.enc = (⟨#[]⟩, 82) := by unfold Nd.enc; rw [if_neg (fun hx => hx hc), if_pos hz]
      rw [hp]
      have hzi : (996 : Int) < (n.size : Int) := by omega
      clear hc hp hz H3
      generalize n.size = sz at *
      generalize n.cells.length = cn at *
      generalize n.keys.length = kn at *
      generalize n.kids.length = gn at *
      generalize n.leaf = lf at *
      go_enter Try.func16, Try.ntmps16
      go_wp2_with (first
        | ((with_reducible refine wpList_box_node (by rfl) (.tmp 0) (by rfl) (some 1) (by rfl) N (unhide HN) lf ca cn cc ka kn kc ga gn gc (by with_unfolding_all rfl) ?_); intro W0 HX0 HB0 HS0; simp only [Act.put, List.setIfInBounds_toArray, List.set_cons_zero, List.set_cons_succ]; obtain ⟨y0, y1, y2, y3⟩ := box4 (unhide HX0))
        | fail)
      refine (unhide H1 _ (unhide HB0)).mono ?_
      rintro e W1 ⟨rfl, hb1⟩
      have HK1 := hide (Kb.below ⟨unhide HB0, unhide HX0⟩ hb1)
      clear hb1 HX0 HB0 HS0 y0 y1 y2 y3
      obtain ⟨y0, y1, y2, y3⟩ := box4 (unhide HK1).2
      go_wp2_with fail
      refine (unhide H2 _ (unhide HK1).1).mono ?_
      rintro e W2 ⟨rfl, hb2⟩
      have HK2 := hide ((unhide HK1).below hb2)
      clear hb2 HK1 y0 y1 y2 y3
      go_wp2
      go_ret2
      exact ⟨rfl, (unhide HK2).1⟩
    · have hp : n.enc = (⟨n.body.toArray⟩, 0) := by unfold Nd.enc; rw [if_neg (fun hx => hx hc), if_neg hz]
      rw [hp]
      have hzi : ¬ (996 : Int) < (n.size : Int) := by omega
      clear hc hp hz
      generalize (⟨n.body.toArray⟩ : ByteArray) = B at *
      generalize n.size = sz at *
      generalize n.cells.length = cn at *
      generalize n.keys.length = kn at *
      generalize n.kids.length = gn at *
      generalize n.leaf = lf at *
      go_enter Try.func16, Try.ntmps16
      go_wp2_with (first
        | ((with_reducible refine wpList_box_node (by rfl) (.tmp 0) (by rfl) (some 1) (by rfl) N (unhide HN) lf ca cn cc ka kn kc ga gn gc (by with_unfolding_all rfl) ?_); intro W0 HX0 HB0 HS0; simp only [Act.put, List.setIfInBounds_toArray, List.set_cons_zero, List.set_cons_succ]; obtain ⟨y0, y1, y2, y3⟩ := box4 (unhide HX0))
        | fail)
      refine (unhide H1 _ (unhide HB0)).mono ?_
      rintro e W1 ⟨rfl, hb1⟩
      have HK1 := hide (Kb.below ⟨unhide HB0, unhide HX0⟩ hb1)
      clear hb1 HX0 HB0 HS0 y0 y1 y2 y3
      obtain ⟨y0, y1, y2, y3⟩ := box4 (unhide HK1).2
      go_wp2_with fail
      refine (unhide H2 _ (unhide HK1).1).mono ?_
      rintro e W2 ⟨rfl, hb2⟩
      have HK2 := hide ((unhide HK1).below hb2)
      clear hb2 HK1 y0 y1 y2 y3
      obtain ⟨y0, y1, y2, y3⟩ := box4 (unhide HK2).2
      go_wp2_with fail
      refine (unhide H3 _ (unhide HK2).1).mono ?_
      rintro e W3 ⟨rfl, hb3⟩
      have HK3 := hide ((unhide HK2).below hb3)
      clear hb3 HK2 y0 y1 y2 y3
      go_wp2
      go_ret2
      exact ⟨rfl, (unhide HK3).1⟩
  · have hp : n.enc = (⟨#[]⟩, n.check) := by unfold Nd.enc; rw [if_pos hc]
    rw [hp]
    have hcb : (n.check == 0) = false := beq_false_of_ne hc
    clear H2 H3 hp
    generalize n.check = c at *
    generalize n.cells.length = cn at *
    generalize n.keys.length = kn at *
    generalize n.kids.length = gn at *
    generalize n.leaf = lf at *
    go_enter Try.func16, Try.ntmps16
    go_wp2_with (first
      | ((with_reducible refine wpList_box_node (by rfl) (.tmp 0) (by rfl) (some 1) (by rfl) N (unhide HN) lf ca cn cc ka kn kc ga gn gc (by with_unfolding_all rfl) ?_); intro W0 HX0 HB0 HS0; simp only [Act.put, List.setIfInBounds_toArray, List.set_cons_zero, List.set_cons_succ]; obtain ⟨y0, y1, y2, y3⟩ := box4 (unhide HX0))
      | fail)
    refine (unhide H1 _ (unhide HB0)).mono ?_
    rintro e W1 ⟨rfl, hb1⟩
    have HK1 := hide (Kb.below ⟨unhide HB0, unhide HX0⟩ hb1)
    clear hb1 HX0 HB0 HS0 y0 y1 y2 y3
    go_wp2
    go_ret2
    exact ⟨rfl, (unhide HK1).1⟩
end Go.Proofs.Ytppmpomfihalfaa
