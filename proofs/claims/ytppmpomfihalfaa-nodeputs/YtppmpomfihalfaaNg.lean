/- Nodes: refused, checked, Size. -/
import Derived.Test.YtppmpomfihalfaaNf
namespace Go.Proofs.Ytppmpomfihalfaa
open Go.RowKit

/-- the value of a node, spelt out -/
theorem Nv.v_eq (n : Nd) (a : Nv) : a.v n = .agg #[.bool n.leaf, .slice a.ca n.cells.length a.cc, .slice a.ka n.keys.length a.kc, .slice a.ga n.kids.length a.gc] := rfl
noncomputable def Nd.refused (n : Nd) (lf : Bool) : Int := if n.check ≠ 0 then n.check else if n.leaf ≠ lf then 80 else 0
set_option maxRecDepth 100000 in
set_option maxHeartbeats 2000000 in
theorem nRefused (n : Nd) (a : Nv) (lf : Bool) (u : World) (h : NdAt u n a) : Calls Try.prog 82 #[a.v n, .bool lf] u fun e u' => e = .returned (.int .i64 (n.refused lf)) ∧ Below u.heap.size u u' := by
  have H1 := hide (fun (v : World) (hb : Below u.heap.size u v) => nCheck n a v (h.below hb))
  clear h
  obtain ⟨N, hN⟩ : ∃ N, N = u.heap.size := ⟨_, rfl⟩
  have HN := hide hN
  rw [← hN] at H1 ⊢
  clear hN
  obtain ⟨r, hr⟩ : ∃ r, r = n.refused lf := ⟨_, rfl⟩
  rw [← hr]
  unfold Nd.refused at hr
  obtain ⟨c, hc⟩ : ∃ c, c = n.check := ⟨_, rfl⟩
  rw [← hc] at H1 hr
  have HR := hide hr
  clear hr hc
  rw [Nv.v_eq] at H1 ⊢
  obtain ⟨ca, cc, ka, kc, ga, gc⟩ := a
  generalize n.cells.length = cn at *
  generalize n.keys.length = kn at *
  generalize n.kids.length = gn at *
  generalize n.leaf = l0 at *
  by_cases h1 : c = 0
  · subst h1
    have hr2 := unhide HR
    clear HR
    cases l0 <;> cases lf
    all_goals
      simp at hr2
      subst hr2
      go_enter Try.func82, Try.ntmps82
      go_wp2_with (first
        | (with_reducible refine wpList_box_node (by rfl) (.tmp 0) (by rfl) (some 2) (by rfl) N (unhide HN) _ ca cn cc ka kn kc ga gn gc (by with_unfolding_all rfl) ?_; intro W1 HX1 HW1 HS1; simp only [Act.put, List.setIfInBounds_toArray, List.set_cons_zero, List.set_cons_succ]; obtain ⟨y0, y1, y2, y3⟩ := box4 (unhide HX1))
        | fail)
      refine (unhide H1 _ (unhide HW1)).mono ?_
      rintro e W2 ⟨rfl, hb2⟩
      have HW2 := hide ((unhide HW1).trans (hb2.mono (by rw [unhide HS1]; omega)))
      have HX2 := hide (box_below (unhide HX1) hb2)
      clear hb2 y0 y1 y2 y3
      obtain ⟨y0, y1, y2, y3⟩ := box4 (unhide HX2)
      go_wp2
      go_ret
      exact ⟨rfl, unhide HW2⟩
  · obtain rfl : r = c := (by rw [unhide HR, if_pos h1])
    clear HR
    go_enter Try.func82, Try.ntmps82
    go_wp2_with (first
      | (with_reducible refine wpList_box_node (by rfl) (.tmp 0) (by rfl) (some 2) (by rfl) N (unhide HN) _ ca cn cc ka kn kc ga gn gc (by with_unfolding_all rfl) ?_; intro W1 HX1 HW1 HS1; simp only [Act.put, List.setIfInBounds_toArray, List.set_cons_zero, List.set_cons_succ]; obtain ⟨y0, y1, y2, y3⟩ := box4 (unhide HX1))
      | fail)
    refine (unhide H1 _ (unhide HW1)).mono ?_
    rintro e W2 ⟨rfl, hb2⟩
    have HW2 := hide ((unhide HW1).trans (hb2.mono (by rw [unhide HS1]; omega)))
    clear hb2 y0 y1 y2 y3
    go_wp2
    go_ret
    exact ⟨rfl, unhide HW2⟩
theorem nodeUnd : Try.prog.underlying 26 = some (.struct (match Try.prog.underlying 26 with | some (.struct fs) => fs | _ => #[])) := by kernel_rfl
theorem results_cell_tmp {P : Program} {fn : Func} {p q : Tmp} {ty : TypeId} (h : fn.results = #[.cell p ty, .tmp q]) (tmps : Array Value) (w : World) (g : Nat) (t : TypeId) (cs : Array Value) (fr : Nat × Nat) (d : TypeDesc)
    (hp : tmps.getD p undef = .pointer (some ⟨g, 0, none⟩)) (hg : w.heap[g]? = some (.cells cs t fr))
    (hu : P.underlying ty = some d) (hd : (match d with | .struct _ | .array _ _ => true | _ => false) = true) (hi : (P.info? ty).map (·.size) = some cs.size) :
    (results fn tmps).run P w = .ok (.tuple #[.agg cs, tmps.getD q undef]) w := by
  have hp' : tmps[p]?.getD undef = .pointer (some ⟨g, 0, none⟩) := by simpa using hp
  simp [results, h, hp', asAddr, run_loadVar_row w g t ty cs fr d hg hu hd hi]
/-- what checked answers -/
noncomputable def Nd.kept (n : Nd) : Nd := if n.check = 0 then n else ⟨false, [], [], []⟩
set_option maxRecDepth 100000 in
set_option maxHeartbeats 2000000 in
theorem nChecked (n : Nd) (a : Nv) (u : World) (h : NdAt u n a) : Calls Try.prog 87 #[a.v n] u fun e u' => (n.check = 0 → e = .returned (.tuple #[a.v n, .int .i64 0])) ∧ (n.check ≠ 0 → e = .returned (.tuple #[.agg #[.bool false, .slice none 0 0, .slice none 0 0, .slice none 0 0], .int .i64 n.check])) ∧ Below u.heap.size u u' := by
  have H1 := hide (fun (v : World) (hb : Below u.heap.size u v) => nCheck n a v (h.below hb))
  clear h
  obtain ⟨N, hN⟩ : ∃ N, N = u.heap.size := ⟨_, rfl⟩
  have HN := hide hN
  rw [← hN] at H1 ⊢
  clear hN
  rw [Nv.v_eq] at H1 ⊢
  obtain ⟨ca, cc, ka, kc, ga, gc⟩ := a
  generalize n.check = c at *
  generalize n.cells.length = cn at *
  generalize n.keys.length = kn at *
  generalize n.kids.length = gn at *
  generalize n.leaf = l0 at *
  by_cases h1 : c = 0
  · subst h1
    go_enter Try.func87, Try.ntmps87
    go_wp2_with (first
      | (with_reducible refine wpList_box_node (by rfl) (.tmp 0) (by rfl) (some 1) (by rfl) N (unhide HN) _ ca cn cc ka kn kc ga gn gc (by with_unfolding_all rfl) ?_; intro W1 HX1 HW1 HS1; simp only [Act.put, List.setIfInBounds_toArray, List.set_cons_zero, List.set_cons_succ])
      | (with_reducible refine wpList_alloc_node (by rfl) (by rfl) (some 2) (by rfl) (N + 1) (unhide HS1).symm ?_; intro W2 HX2 HW2 HS2; simp only [Act.put, List.setIfInBounds_toArray, List.set_cons_zero, List.set_cons_succ]; have HX3 := hide (((unhide HW2).block N (Nat.lt_succ_self N)).trans (unhide HX1)); obtain ⟨y0, y1, y2, y3⟩ := box4 (unhide HX3))
      | fail)
    refine (unhide H1 _ (by exact (unhide HW1).trans ((unhide HW2).mono (Nat.le_succ N)))).mono ?_
    rintro e W3 ⟨rfl, hb3⟩
    have HW3 : Hid (Below N u W3) := (unhide HW1).trans (((unhide HW2).mono (Nat.le_succ N)).trans (hb3.mono (by rw [unhide HS2]; omega)))
    have HX4 := hide (box_below (unhide HX3) hb3)
    have HX5 := hide (box_below (unhide HX2) hb3)
    clear hb3 y0 y1 y2 y3 HX1 HX2 HX3 HW1 HW2 HS1 HS2
    obtain ⟨y0, y1, y2, y3⟩ := box4 (unhide HX4)
    go_wp2_with (first
      | (with_reducible refine wpList_store_node (by rfl) (.tmp 2) (.tmp 11) (by rfl) (N + 1) l0 ca cn cc ka kn kc ga gn gc (by with_unfolding_all rfl) (by with_unfolding_all rfl) (unhide HX5) ?_; intro W6 HX6 HE6; simp only [Act.put])
      | fail)
    have HW6 : Hid (Below N u W6) := by rw [unhide HE6]; exact belowRow (unhide HW3) (Nat.le_succ N) _
    clear HE6
    go_wp2
    refine bodyPost_ret (results_cell_tmp rfl _ _ (N + 1) 26 #[.bool l0, .slice ca cn cc, .slice ka kn kc, .slice ga gn gc] (0, 0) _ rfl (unhide HX6) nodeUnd rfl nodeInfo) rfl ?_
    exact ⟨fun _ => rfl, fun h => absurd rfl h, unhide HW6⟩
  · go_enter Try.func87, Try.ntmps87
    go_wp2_with (first
      | (with_reducible refine wpList_box_node (by rfl) (.tmp 0) (by rfl) (some 1) (by rfl) N (unhide HN) _ ca cn cc ka kn kc ga gn gc (by with_unfolding_all rfl) ?_; intro W1 HX1 HW1 HS1; simp only [Act.put, List.setIfInBounds_toArray, List.set_cons_zero, List.set_cons_succ])
      | (with_reducible refine wpList_alloc_node (by rfl) (by rfl) (some 2) (by rfl) (N + 1) (unhide HS1).symm ?_; intro W2 HX2 HW2 HS2; simp only [Act.put, List.setIfInBounds_toArray, List.set_cons_zero, List.set_cons_succ]; have HX3 := hide (((unhide HW2).block N (Nat.lt_succ_self N)).trans (unhide HX1)); obtain ⟨y0, y1, y2, y3⟩ := box4 (unhide HX3))
      | fail)
    refine (unhide H1 _ (by exact (unhide HW1).trans ((unhide HW2).mono (Nat.le_succ N)))).mono ?_
    rintro e W3 ⟨rfl, hb3⟩
    have HW3 : Hid (Below N u W3) := (unhide HW1).trans (((unhide HW2).mono (Nat.le_succ N)).trans (hb3.mono (by rw [unhide HS2]; omega)))
    have HX4 := hide (box_below (unhide HX3) hb3)
    have HX5 := hide (box_below (unhide HX2) hb3)
    clear hb3 y0 y1 y2 y3 HX1 HX2 HX3 HW1 HW2 HS1 HS2
    obtain ⟨y0, y1, y2, y3⟩ := box4 (unhide HX4)
    go_wp2_with (first
      | (with_reducible refine wpList_store_node (by rfl) (.tmp 2) (.tmp 9) (by rfl) (N + 1) false none 0 0 none 0 0 none 0 0 (by with_unfolding_all rfl) (by with_unfolding_all rfl) (unhide HX5) ?_; intro W6 HX6 HE6; simp only [Act.put])
      | fail)
    have HW6 : Hid (Below N u W6) := by rw [unhide HE6]; exact belowRow (unhide HW3) (Nat.le_succ N) _
    clear HE6
    go_wp2
    refine bodyPost_ret (results_cell_tmp rfl _ _ (N + 1) 26 #[.bool false, .slice none 0 0, .slice none 0 0, .slice none 0 0] (0, 0) _ rfl (unhide HX6) nodeUnd rfl nodeInfo) rfl ?_
    exact ⟨fun h => absurd h h1, fun _ => rfl, unhide HW6⟩
set_option maxRecDepth 100000 in
set_option maxHeartbeats 2000000 in
theorem nSizeP (n : Nd) (a : Nv) (u : World) (h : NdAt u n a) : Calls Try.prog 20 #[a.v n] u fun e u' => (n.check = 0 → e = .returned (.int .i64 (n.size : Int))) ∧ (n.check ≠ 0 → e = .returned (.int .i64 0)) ∧ Below u.heap.size u u' := by
  have H1 := hide (fun (v : World) (hb : Below u.heap.size u v) => nCheck n a v (h.below hb))
  have H2 := hide (fun (hc : n.check = 0) (v : World) (hb : Below u.heap.size u v) => nSize n a (Nd.check_zero.1 hc).small v (h.below hb))
  clear h
  obtain ⟨N, hN⟩ : ∃ N, N = u.heap.size := ⟨_, rfl⟩
  have HN := hide hN
  rw [← hN] at H1 H2 ⊢
  clear hN
  rw [Nv.v_eq] at H1 H2 ⊢
  obtain ⟨ca, cc, ka, kc, ga, gc⟩ := a
  generalize n.check = c at *
  generalize n.size = sz at *
  generalize n.cells.length = cn at *
  generalize n.keys.length = kn at *
  generalize n.kids.length = gn at *
  generalize n.leaf = l0 at *
  by_cases h1 : c = 0
  · have H3 := hide (unhide H2 h1)
    subst h1
    clear H2
    go_enter Try.func20, Try.ntmps20
    go_wp2_with (first
      | (with_reducible refine wpList_box_node (by rfl) (.tmp 0) (by rfl) (some 1) (by rfl) N (unhide HN) _ ca cn cc ka kn kc ga gn gc (by with_unfolding_all rfl) ?_; intro W1 HX1 HW1 HS1; simp only [Act.put, List.setIfInBounds_toArray, List.set_cons_zero, List.set_cons_succ]; obtain ⟨y0, y1, y2, y3⟩ := box4 (unhide HX1))
      | fail)
    refine (unhide H1 _ (unhide HW1)).mono ?_
    rintro e W2 ⟨rfl, hb2⟩
    have HW2 := hide ((unhide HW1).trans (hb2.mono (by rw [unhide HS1]; omega)))
    have HX2 := hide (box_below (unhide HX1) hb2)
    have HNW : Hid (N ≤ W2.heap.size) := Nat.le_trans (by rw [unhide HS1]; omega) hb2.size
    clear hb2 y0 y1 y2 y3
    obtain ⟨y0, y1, y2, y3⟩ := box4 (unhide HX2)
    go_wp2_with fail
    refine (unhide H3 _ (unhide HW2)).mono ?_
    rintro e W3 ⟨rfl, hb3⟩
    have HW3 := hide ((unhide HW2).trans (hb3.mono (unhide HNW)))
    clear hb3 y0 y1 y2 y3
    go_wp2
    go_ret
    exact ⟨fun _ => rfl, fun h => absurd rfl h, unhide HW3⟩
  · clear H2
    go_enter Try.func20, Try.ntmps20
    go_wp2_with (first
      | (with_reducible refine wpList_box_node (by rfl) (.tmp 0) (by rfl) (some 1) (by rfl) N (unhide HN) _ ca cn cc ka kn kc ga gn gc (by with_unfolding_all rfl) ?_; intro W1 HX1 HW1 HS1; simp only [Act.put, List.setIfInBounds_toArray, List.set_cons_zero, List.set_cons_succ]; obtain ⟨y0, y1, y2, y3⟩ := box4 (unhide HX1))
      | fail)
    refine (unhide H1 _ (unhide HW1)).mono ?_
    rintro e W2 ⟨rfl, hb2⟩
    have HW2 := hide ((unhide HW1).trans (hb2.mono (by rw [unhide HS1]; omega)))
    clear hb2 y0 y1 y2 y3
    go_wp2
    go_ret
    exact ⟨fun h => absurd h h1, fun _ => rfl, unhide HW2⟩
end Go.Proofs.Ytppmpomfihalfaa
