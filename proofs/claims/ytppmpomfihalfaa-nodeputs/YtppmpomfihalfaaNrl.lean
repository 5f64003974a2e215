/- Nodes: Grow with a key or a kid that may not be. -/
import Derived.Test.YtppmpomfihalfaaNrk
namespace Go.Proofs.Ytppmpomfihalfaa
open Go.RowKit

open Classical in
set_option maxRecDepth 100000 in
set_option maxHeartbeats 8000000 in
theorem nGrowBad (n : Nd) (a : Nv) (i : Nat) (key : ByteArray) (kid : Nat) (u : World) (h : NdAt u n a) (hc : n.refused false = 0) (hi : i < n.kids.length) (hbad : ¬ keyOk key ∨ kid = 0) : Calls Try.prog 44 #[a.v n, .int .i64 (i : Int), .string key, .int .u32 (kid : Int)] u fun e u' => e = .returned (.tuple #[zeroV, .int .i64 1]) ∧ Below u.heap.size u u' := by
  have hle := (Nd.refused_zero.1 hc).1.lens
  have H1 := hide (fun (v : World) (hb : Below u.heap.size u v) => nRefused n a false v (h.below hb))
  have H2 := hide (fun v : World => nKeyMay key v)
  obtain ⟨b, hb⟩ : ∃ b, b = decide (keyOk key) := ⟨_, rfl⟩
  rw [← hb] at H2
  have hbk : b = false ∨ kid = 0 := hbad.elim (fun hk => .inl (by rw [hb]; exact decide_eq_false hk)) .inr
  have hii : (i : Int) < (n.kids.length : Int) := by omega
  have hil : (i : Int) ≤ 1993 := by omega
  clear h hle hi hb hbad
  obtain ⟨N, hN⟩ : ∃ N, N = u.heap.size := ⟨_, rfl⟩
  have HN := hide hN
  rw [← hN] at H1 ⊢
  clear hN
  rw [Nv.v_eq] at H1 ⊢
  rw [hc] at H1
  clear hc
  obtain ⟨ca, cc, ka, kc, ga, gc⟩ := a
  generalize n.cells.length = cn at *
  generalize n.keys.length = kn at *
  generalize n.kids.length = gn at *
  generalize n.leaf = lf at *
  have hi0 : ¬ (i : Int) < 0 := by omega
  have hi1 : ¬ gn ≤ i := by omega
  go_enter Try.func44, Try.ntmps44
  go_wp2_with (first
    | ((with_reducible refine wpList_box_node (by rfl) (.tmp 0) (by rfl) (some 4) (by rfl) N (unhide HN) lf ca cn cc ka kn kc ga gn gc (by with_unfolding_all rfl) ?_); intro W0 HX0 HB0 HS0; simp only [Act.put, List.setIfInBounds_toArray, List.set_cons_zero, List.set_cons_succ])
    | ((with_reducible refine wpList_alloc_node (by rfl) (by rfl) (some 8) (by rfl) (N + 1) (unhide HS0).symm ?_); intro W1 HX1 HB1 HS1; simp only [Act.put, List.setIfInBounds_toArray, List.set_cons_zero, List.set_cons_succ]; have HX2 := hide (((unhide HB1).block N (Nat.lt_succ_self N)).trans (unhide HX0)); obtain ⟨y0, y1, y2, y3⟩ := box4 (unhide HX2))
    | fail)
  have HG1 : Hid (Gs u W1 N (.cells #[.bool lf, .slice ca cn cc, .slice ka kn kc, .slice ga gn gc] 26 (0, 0)) (.cells #[.bool false, .slice none 0 0, .slice none 0 0, .slice none 0 0] 26 (0, 0))) := ⟨⟨(unhide HB0).trans ((unhide HB1).mono (Nat.le_succ N)), unhide HX2⟩, unhide HX1⟩
  clear HX0 HB0 HS0 HB1 HS1 HX1 HX2
  refine (unhide H1 _ (unhide HG1).1.1).mono ?_
  rintro e W3 ⟨rfl, hb3⟩
  have HG3 := hide ((unhide HG1).below hb3)
  clear hb3 y0 y1 y2 y3 HG1
  obtain ⟨y0, y1, y2, y3⟩ := box4 (unhide HG3).1.2
  go_wp2_with fail
  refine (unhide H2 _).mono ?_
  rintro e W4 ⟨rfl, hw4⟩
  obtain rfl := hw4.symm
  clear hw4
  have HX6 : Hid (W3.heap[N + 1]? = some (.cells #[.bool false, .slice none 0 0, .slice none 0 0, .slice none 0 0] 26 (0, 0))) := (unhide HG3).2
  rcases hbk with rfl | rfl
  · go_wp2_with (first
      | ((with_reducible refine wpList_store_node (by rfl) (.tmp 8) (.tmp 35) (by rfl) (N + 1) false none 0 0 none 0 0 none 0 0 (by with_unfolding_all rfl) (by with_unfolding_all rfl) (unhide HX6) ?_); intro W8 HX11 HE11; simp only [Act.put])
      | fail)
    have HW8 : Hid (Below N u W8) := by rw [unhide HE11]; exact belowRow (unhide HG3).1.1 (Nat.le_succ N) _
    clear HE11
    refine bodyPost_ret (results_cell_tmp rfl _ _ (N + 1) 26 #[.bool false, .slice none 0 0, .slice none 0 0, .slice none 0 0] (0, 0) _ rfl (unhide HX11) nodeUnd rfl nodeInfo) rfl ?_
    exact ⟨rfl, unhide HW8⟩
  · have hz0 : (((0 : Nat) : Int) == 0) = true := rfl
    cases b
    all_goals
      go_wp2_with (first
        | ((with_reducible refine wpList_store_node (by rfl) (.tmp 8) (.tmp 35) (by rfl) (N + 1) false none 0 0 none 0 0 none 0 0 (by with_unfolding_all rfl) (by with_unfolding_all rfl) (unhide HX6) ?_); intro W8 HX11 HE11; simp only [Act.put])
        | fail)
      have HW8 : Hid (Below N u W8) := by rw [unhide HE11]; exact belowRow (unhide HG3).1.1 (Nat.le_succ N) _
      clear HE11
      refine bodyPost_ret (results_cell_tmp rfl _ _ (N + 1) 26 #[.bool false, .slice none 0 0, .slice none 0 0, .slice none 0 0] (0, 0) _ rfl (unhide HX11) nodeUnd rfl nodeInfo) rfl ?_
      exact ⟨rfl, unhide HW8⟩
end Go.Proofs.Ytppmpomfihalfaa
