/- Nodes: a twin of a node, the walk. -/
import Derived.Test.YtppmpomfihalfaaNrh
namespace Go.Proofs.Ytppmpomfihalfaa
open Go.RowKit

theorem flatK_one (l : List ByteArray) : ∀ v ∈ flatK l, v.oneCell' = true := by
  intro v hv
  obtain ⟨c, _, rfl⟩ := List.mem_map.1 hv
  rfl
theorem flatG_one (l : List Nat) : ∀ v ∈ flatG l, v.oneCell' = true := by
  intro v hv
  obtain ⟨c, _, rfl⟩ := List.mem_map.1 hv
  rfl
set_option maxRecDepth 100000 in
set_option maxHeartbeats 4000000 in
theorem lTwin (n : Nd) (a : Nv) (u : World) (h : NdAt u n a) (hn : a.Nil) (hb : n.cells.length ≤ 4398046511104 ∧ n.keys.length ≤ 8796093022208 ∧ n.kids.length ≤ 35184372088832) : Calls Try.prog 24 #[a.v n] u fun e u' => ∃ b : Nv, e = .returned (b.v n) ∧ NdAt u' n b ∧ b.Nil ∧ Below u.heap.size u u' := by
  have HA := hide h
  obtain ⟨N, hN⟩ : ∃ N, N = u.heap.size := ⟨_, rfl⟩
  have HN := hide hN
  rw [← hN]
  clear hN
  obtain ⟨ca, cc, ka, kc, ga, gc⟩ := a
  obtain ⟨lf, cs, ks, gs⟩ := n
  show Calls Try.prog 24 #[.agg #[.bool lf, .slice ca cs.length cc, .slice ka ks.length kc, .slice ga gs.length gc]] u _
  have hb : cs.length ≤ 4398046511104 ∧ ks.length ≤ 8796093022208 ∧ gs.length ≤ 35184372088832 := hb
  have HC : Hid (Lies u ca (flatC cs)) := h.cells
  have HK : Hid (Lies u ka (flatK ks)) := h.keys
  have HG : Hid (Lies u ga (flatG gs)) := h.kids
  have HNL := hide hn
  have HOC := hide (flatC_one cs)
  have HOK := hide (flatK_one ks)
  have HOG := hide (flatG_one gs)
  obtain ⟨i0, hi0⟩ := cell_parts
  obtain ⟨i1, hi1⟩ := str_parts
  obtain ⟨i2, hi2⟩ := kid_parts
  have HI0 := hide hi0
  have HI1 := hide hi1
  have HI2 := hide hi2
  have HFC : Hid ((flatC cs).length = cs.length * 2) := flatC_len cs
  have HFK : Hid ((flatK ks).length = ks.length * 1) := by simp [flatK, Hid]
  have HFG : Hid ((flatG gs).length = gs.length * 1) := by simp [flatG, Hid]
  clear h hn hi0 hi1 hi2
  obtain ⟨cn, hcn⟩ : ∃ cn, cn = cs.length := ⟨_, rfl⟩
  obtain ⟨kn, hkn⟩ : ∃ kn, kn = ks.length := ⟨_, rfl⟩
  obtain ⟨gn, hgn⟩ : ∃ gn, gn = gs.length := ⟨_, rfl⟩
  have HCN := hide hcn
  have HKN := hide hkn
  have HGN := hide hgn
  rw [← hcn] at HFC
  rw [← hkn] at HFK
  rw [← hgn] at HFG
  rw [← hcn, ← hkn, ← hgn] at hb ⊢
  clear hcn hkn hgn
  go_enter Try.func24, Try.ntmps24
  go_wp2_with (first
    | ((with_reducible refine wpList_box_node (by rfl) (.tmp 0) (by rfl) (some 1) (by rfl) N (unhide HN) lf ca cn cc ka kn kc ga gn gc (by with_unfolding_all rfl) ?_); intro W0 HX0 HB0 HS0; simp only [Act.put, List.setIfInBounds_toArray, List.set_cons_zero, List.set_cons_succ])
    | ((with_reducible refine wpList_alloc_node (by rfl) (by rfl) (some 2) (by rfl) (N + 1) (unhide HS0).symm ?_); intro W1 HX1 HB1 HS1; simp only [Act.put, List.setIfInBounds_toArray, List.set_cons_zero, List.set_cons_succ])
    | ((with_reducible refine wpList_alloc_node (by rfl) (by rfl) (some 3) (by rfl) (N + 2) (unhide HS1).symm ?_); intro W2 HX2 HB2 HS2; simp only [Act.put, List.setIfInBounds_toArray, List.set_cons_zero, List.set_cons_succ]; have T2 := hide (Tw.mk (u := u) (N := N) ((unhide HB0).trans (((unhide HB1).trans ((unhide HB2).mono (Nat.le_succ _))).mono (Nat.le_succ _))) ((((unhide HB1).trans ((unhide HB2).mono (Nat.le_succ _))).block N (Nat.lt_succ_self _)).trans (unhide HX0)) (((unhide HB2).block (N + 1) (Nat.lt_succ_self _)).trans (unhide HX1)) (unhide HX2)); obtain ⟨y0, y1, y2, y3⟩ := box4 (unhide T2).box; obtain ⟨z0, z1, z2, z3⟩ := box4 (unhide T2).made; have zf : W2.frozen? ⟨N + 2, 0, none⟩ = false := (by simp [World.frozen?, (unhide T2).made]))
    | (at_builtin; refine wpList_twin (by rfl) (.tmp 8) (.tmp 10) 22 (by rfl) (some 11) (by rfl) 66 i0 (.agg #[.string ⟨#[]⟩, .string ⟨#[]⟩]) 2 32 undC (unhide HI0) rfl (by decide) rfl ca cn cc (flatC cs) rfl (unhide HNL).c (unhide HFC) ((unhide HC).below (by rw [← unhide HN]; exact ((unhide T2).set 0 (.bool lf)).bel)) (unhide HOC) (by omega) (by omega) ?_; intro cb cd W4 HO4 HG4; simp only [Act.put, List.setIfInBounds_toArray, List.set_cons_zero, List.set_cons_succ]; have T4 : Hid (Tw u W4 N #[.bool lf, .slice ca cn cc, .slice ka kn kc, .slice ga gn gc] #[.bool lf, .slice none 0 0, .slice none 0 0, .slice none 0 0]) := ((unhide T2).set 0 (.bool lf)).grow (unhide HG4); have F4 := hide (own_fr (N := N) (unhide HO4) ((unhide T2).set 0 (.bool lf)).sz); have R4 := hide (own_liesS (unhide HO4)); clear HO4; obtain ⟨y0, y1, y2, y3⟩ := box4 (unhide T4).box; obtain ⟨z0, z1, z2, z3⟩ := box4 (unhide T4).made; have zf : ∀ k, W4.frozen? ⟨N + 2, k, none⟩ = false := (fun k => by simp [World.frozen?, (unhide T4).made]); have zf1 := zf 1)
    | (at_builtin; refine wpList_twin (by rfl) (.tmp 14) (.tmp 16) 23 (by rfl) (some 17) (by rfl) 9 i1 (.string ⟨#[]⟩) 1 16 undSt (unhide HI1) rfl (by decide) rfl ka kn kc (flatK ks) rfl (unhide HNL).k (unhide HFK) ((unhide HK).below (by rw [← unhide HN]; exact ((unhide T4).set 1 (.slice cb cn cd)).bel)) (unhide HOK) (by omega) (by omega) ?_; intro kb kd W5 HO5 HG5; simp only [Act.put, List.setIfInBounds_toArray, List.set_cons_zero, List.set_cons_succ]; have T5 : Hid (Tw u W5 N #[.bool lf, .slice ca cn cc, .slice ka kn kc, .slice ga gn gc] #[.bool lf, .slice cb cn cd, .slice none 0 0, .slice none 0 0]) := ((unhide T4).set 1 (.slice cb cn cd)).grow (unhide HG5); have F5 := hide (own_fr (N := N) (unhide HO5) ((unhide T4).set 1 (.slice cb cn cd)).sz); have R5 := hide (own_liesS (unhide HO5)); clear HO5; obtain ⟨y0, y1, y2, y3⟩ := box4 (unhide T5).box; obtain ⟨z0, z1, z2, z3⟩ := box4 (unhide T5).made; have zf : ∀ k, W5.frozen? ⟨N + 2, k, none⟩ = false := (fun k => by simp [World.frozen?, (unhide T5).made]); have zf1 := zf 2)
    | (at_builtin; refine wpList_twin (by rfl) (.tmp 20) (.tmp 22) 24 (by rfl) (some 23) (by rfl) 50 i2 (.int .u32 0) 1 4 undG (unhide HI2) rfl (by decide) rfl ga gn gc (flatG gs) rfl (unhide HNL).g (unhide HFG) ((unhide HG).below (by rw [← unhide HN]; exact ((unhide T5).set 2 (.slice kb kn kd)).bel)) (unhide HOG) (by omega) (by omega) ?_; intro gb gd W6 HO6 HG6; simp only [Act.put, List.setIfInBounds_toArray, List.set_cons_zero, List.set_cons_succ]; have T6 : Hid (Tw u W6 N #[.bool lf, .slice ca cn cc, .slice ka kn kc, .slice ga gn gc] #[.bool lf, .slice cb cn cd, .slice kb kn kd, .slice none 0 0]) := ((unhide T5).set 2 (.slice kb kn kd)).grow (unhide HG6); have F6 := hide (own_fr (N := N) (unhide HO6) ((unhide T5).set 2 (.slice kb kn kd)).sz); have R6 := hide (own_liesS (unhide HO6)); clear HO6; obtain ⟨y0, y1, y2, y3⟩ := box4 (unhide T6).box; obtain ⟨z0, z1, z2, z3⟩ := box4 (unhide T6).made; have zf : ∀ k, W6.frozen? ⟨N + 2, k, none⟩ = false := (fun k => by simp [World.frozen?, (unhide T6).made]); have zf1 := zf 3)
    | ((with_reducible refine wpList_store_node (by rfl) (.tmp 2) (.tmp 25) (by rfl) (N + 1) lf cb cn cd kb kn kd gb gn gd (by with_unfolding_all rfl) (by with_unfolding_all rfl) ((unhide T6).set 3 (.slice gb gn gd)).res ?_); intro W8 HX8 HE8; simp only [Act.put])
    | fail)
  have HZ : Hid (Below N u W8 ∧ Lies W8 cb (flatC cs) ∧ Lies W8 kb (flatK ks) ∧ Lies W8 gb (flatG gs)) := by
    rw [unhide HE8]
    exact ⟨belowRow ((unhide T6).set 3 (.slice gb gn gd)).bel (Nat.le_succ N) _,
      (((((unhide F4).set 1 (.slice cb cn cd)).grow (unhide HG5)).set 2 (.slice kb kn kd)).grow (unhide HG6)).set 3 (.slice gb gn gd) |>.row (by omega) _,
      (((unhide F5).set 2 (.slice kb kn kd)).grow (unhide HG6)).set 3 (.slice gb gn gd) |>.row (by omega) _,
      (unhide F6).set 3 (.slice gb gn gd) |>.row (by omega) _⟩
  refine bodyPost_ret (results_cell rfl _ _ (N + 1) 26 #[.bool lf, .slice cb cn cd, .slice kb kn kd, .slice gb gn gd] (0, 0) _ rfl (unhide HX8) nodeUnd rfl nodeInfo) rfl ?_
  refine ⟨⟨cb, cd, kb, kd, gb, gd⟩, ?_, ⟨(unhide HZ).2.1, (unhide HZ).2.2.1, (unhide HZ).2.2.2, (unhide HA).kid, (unhide HA).len, (unhide HA).str, ?_⟩, ⟨(unhide R4).2.2.1, (unhide R5).2.2.1, (unhide R6).2.2.1⟩, (unhide HZ).1⟩
  · rw [unhide HCN, unhide HKN, unhide HGN]; rfl
  · exact ⟨by rw [← unhide HCN]; exact (unhide R4).2.1, by rw [← unhide HKN]; exact (unhide R5).2.1, by rw [← unhide HGN]; exact (unhide R6).2.1⟩
end Go.Proofs.Ytppmpomfihalfaa
