/- States: Join, Below. -/
import Derived.Test.YtbahfpcfjhifbaaYi
namespace Go.Proofs.Ytbahfpcfjhifbaa
open Go.RowKit Go.Lib
/-- a state whose lists are one's own -/
structure OwnT (w : World) (B : Nat) (s : St) (v : Sv) : Prop where
  seen : OwnD w B s.seen v.sa v.sc
  sibs : OwnS w B s.sibs v.ba v.bc
theorem OwnT.below {w w' : World} {B : Nat} {s : St} {v : Sv} (h : OwnT w B s v) (hb : Below w.heap.size w w') : OwnT w' B s v := ⟨h.seen.below hb, h.sibs.below hb⟩
theorem OwnT.down {w : World} {B B' : Nat} {s : St} {v : Sv} (h : OwnT w B s v) (hb : B' ≤ B) : OwnT w B' s v := ⟨own_down h.seen hb, own_down h.sibs hb⟩
theorem OwnT.none (w : World) (B : Nat) : OwnT w B St.none Sv.none := ⟨World.ownsRow_nil _ _ _ _, OwnS.nil _ _⟩
/-- what a state may hold -/
structure FitT (s : St) : Prop where
  seen : Fits s.seen
  sibs : FitS s.sibs
theorem OwnT.at {w : World} {B : Nat} {s : St} {v : Sv} (h : OwnT w B s v) (hf : FitT s) (ho : SOk s) : SAt w s v :=
  ⟨⟨h.seen.dv, hf.seen, by have := ho.slen; omega⟩, h.sibs.sa hf.sibs (by have := ho.len; omega)⟩
theorem SAt.fit {w : World} {s : St} {v : Sv} (h : SAt w s v) : FitT s := ⟨h.seen.fits, h.sibs.fits⟩
theorem fit_none : FitT St.none := ⟨fun _ h => (by cases h), fun _ h => (by cases h)⟩
theorem fit_jn {a b : St} (ha : FitT a) (hb : FitT b) : FitT (jnS a b) := ⟨fits_mrg ha.seen hb.seen, fun x hx => by
  rcases jn_from x hx with h | h
  · exact ha.sibs x h
  · exact hb.sibs x h⟩
theorem kMaxO {W0 : World} {a b : List (Nat × Nat)} {xa xb : Option Addr} {ca cb na nb : Nat} (m : List (Nat × Nat)) (r : Int) (hr : maxV a b = (m, r)) (ea : na = a.length) (eb : nb = b.length) (ha : Da W0 a xa ca) (hb : Da W0 b xb cb) : Calls Try.prog 54 #[.slice xa na ca, .slice xb nb cb] W0 fun e W' => ∃ xm nm cm, e = .returned (.tuple #[.slice xm nm cm, .int .i64 r]) ∧ nm = m.length ∧ OwnD W' W0.heap.size m xm cm ∧ Below W0.heap.size W0 W' := by
  subst ea eb
  refine (vMax a b xa xb ca cb W0 ha hb).mono ?_
  rintro e W' ⟨ao, c, rfl, h1, h2⟩
  rw [hr] at h1 ⊢
  exact ⟨ao, _, c, rfl, rfl, h1, h2⟩
theorem join_ok {a b : St} (ha : SOk a) (hb : SOk b) (h1 : (V.mrg a.seen b.seen).length ≤ 64) (h2 : (jnS a b).sibs.length ≤ 64) : joinV a b = (jnS a b, 0) := by
  unfold joinV; rw [sokB_true.2 ha, sokB_true.2 hb, if_pos (show (true && true) = true from rfl), if_pos ⟨h1, h2⟩]
theorem join_big {a b : St} (ha : SOk a) (hb : SOk b) (h : ¬ ((V.mrg a.seen b.seen).length ≤ 64 ∧ (jnS a b).sibs.length ≤ 64)) : joinV a b = (St.none, 82) := by
  unfold joinV; rw [sokB_true.2 ha, sokB_true.2 hb, if_pos (show (true && true) = true from rfl), if_neg h]
theorem join_not {a b : St} (h : ¬ (SOk a ∧ SOk b)) : joinV a b = (St.none, 110) := by
  unfold joinV
  rw [if_neg]
  rw [Bool.and_eq_true, sokB_true, sokB_true]; exact h
theorem jnS_ok {a b : St} (ha : SOk a) (hb : SOk b) (h1 : (V.mrg a.seen b.seen).length ≤ 64) (h2 : (jnS a b).sibs.length ≤ 64) : SOk (jnS a b) := ⟨jnS_sv ha.toSV hb.toSV, h1, h2⟩
set_option maxRecDepth 100000 in
set_option maxHeartbeats 4000000 in
theorem dJoin (a b : St) (v w : Sv) (u : World) (ha : SAt u a v) (hb : SAt u b w) (J : St) (r : Int) (hJ : joinV a b = (J, r)) : Calls Try.prog 26 #[v.v a.seen.length a.sibs.length, w.v b.seen.length b.sibs.length] u fun e u' => ∃ x n m, e = .returned (.tuple #[Sv.v x n m, .int .i64 r]) ∧ n = J.seen.length ∧ m = J.sibs.length ∧ OwnT u' u.heap.size J x ∧ Below u.heap.size u u' := by
  obtain ⟨N, hN⟩ : ∃ N, N = u.heap.size := ⟨_, rfl⟩
  have HN := hide hN
  have HA := hide ha
  have HB := hide hb
  rw [← hN]
  clear hN ha hb
  obtain ⟨n1, hn1⟩ : ∃ n, n = a.seen.length := ⟨_, rfl⟩
  obtain ⟨m1, hm1⟩ : ∃ n, n = a.sibs.length := ⟨_, rfl⟩
  obtain ⟨n2, hn2⟩ : ∃ n, n = b.seen.length := ⟨_, rfl⟩
  obtain ⟨m2, hm2⟩ : ∃ n, n = b.sibs.length := ⟨_, rfl⟩
  have E1 := hide hn1
  have E2 := hide hm1
  have E3 := hide hn2
  have E4 := hide hm2
  have HV1 : Hid (∀ W : World, SAt W a v → Calls Try.prog 15 #[v.v n1 m1] W fun e W' => e = .returned (.bool (sokB a)) ∧ Below W.heap.size W W') := fun W h => by rw [hn1, hm1]; exact dValid' a v W h
  have HV2 : Hid (∀ W : World, SAt W b w → Calls Try.prog 15 #[w.v n2 m2] W fun e W' => e = .returned (.bool (sokB b)) ∧ Below W.heap.size W W') := fun W h => by rw [hn2, hm2]; exact dValid' b w W h
  have HMX : Hid (∀ (m : List (Nat × Nat)) (r : Int) (W : World), maxV a.seen b.seen = (m, r) → SAt W a v → SAt W b w → Calls Try.prog 54 #[.slice v.sa n1 v.sc, .slice w.sa n2 w.sc] W fun e W' => ∃ xm nm cm, e = .returned (.tuple #[.slice xm nm cm, .int .i64 r]) ∧ nm = m.length ∧ OwnD W' W.heap.size m xm cm ∧ Below W.heap.size W W') := fun m r W hr h1 h2 => kMaxO m r hr hn1 hn2 h1.seen h2.seen
  have HJD : Hid (∀ W : World, SOk a → SOk b → SAt W a v → SAt W b w → Calls Try.prog 55 #[v.v n1 m1, w.v n2 m2] W fun e W' => ∃ xo n c, e = .returned (.slice xo n c) ∧ n = (jnS a b).sibs.length ∧ OwnS W' W.heap.size (jnS a b).sibs xo c ∧ Below W.heap.size W W') := fun W oa ob h1 h2 => by rw [hn1, hm1, hn2, hm2]; exact dJoined a b v w W h1 h2 oa ob
  rw [← hn1, ← hm1, ← hn2, ← hm2]
  clear hn1 hm1 hn2 hm2
  by_cases oa : SOk a
  · by_cases ob : SOk b
    · rw [sokB_true.2 oa] at HV1
      rw [sokB_true.2 ob] at HV2
      have HOA := hide oa
      have HOB := hide ob
      have HJL : Hid ((jnS a b).sibs.length ≤ 128) := hide (by
        have := jn_len a.seen b.seen a.sibs b.sibs
        have := oa.len
        have := ob.len
        show (jn a.seen b.seen a.sibs b.sibs).length ≤ 128
        omega)
      by_cases h1 : (V.mrg a.seen b.seen).length ≤ 64
      · have HE := hide (max_ok oa.ok ob.ok h1)
        by_cases h2 : (jnS a b).sibs.length ≤ 64
        · rw [join_ok oa ob h1 h2] at hJ
          cases hJ
          have HH2 := hide h2
          clear oa ob h1 h2
          go_enter Try.func26, Try.ntmps26
          go_wp2_with (first
            | ((with_reducible refine wpList_box_state (by rfl) (.tmp 0) (by rfl) (some 2) (by rfl) N (unhide HN) v n1 m1 (by with_unfolding_all rfl) ?_); intro W1 HX1 HB1 HS1; simp only [Act.put, List.setIfInBounds_toArray, List.set_cons_zero, List.set_cons_succ])
            | ((with_reducible refine wpList_box_state (by rfl) (.tmp 1) (by rfl) (some 3) (by rfl) (N + 1) (unhide HS1).symm w n2 m2 (by with_unfolding_all rfl) ?_); intro W2 HX2 HB2 HS2; simp only [Act.put, List.setIfInBounds_toArray, List.set_cons_zero, List.set_cons_succ])
            | ((with_reducible refine wpList_alloc_state (by rfl) (by rfl) (some 4) (by rfl) (N + 1 + 1) (unhide HS2).symm ?_); intro W3 HX3 HB3 HS3; simp only [Act.put, List.setIfInBounds_toArray, List.set_cons_zero, List.set_cons_succ]; have HY1 : Hid (W3.heap[N]? = some (stRow v n1 m1)) := ((unhide HB3).block N (by omega)).trans (((unhide HB2).block N (Nat.lt_succ_self _)).trans (unhide HX1)); have HY2 : Hid (W3.heap[N + 1]? = some (stRow w n2 m2)) := ((unhide HB3).block (N + 1) (Nat.lt_succ_self _)).trans (unhide HX2); have HBU : Hid (Below N u W3) := (unhide HB1).trans (((unhide HB2).mono (Nat.le_succ _)).trans ((unhide HB3).mono (by omega))); have HA3 := hide ((unhide HA).below (by rw [← unhide HN]; exact unhide HBU)); have HB4 := hide ((unhide HB).below (by rw [← unhide HN]; exact unhide HBU)); obtain ⟨x0, x1⟩ := st_cells (unhide HY1); obtain ⟨y0, y1⟩ := st_cells (unhide HY2); clear HX1 HX2 HB1 HB2 HB3 HS1 HS2)
            | (go_at_call_of 15 (Value.agg #[.slice v.sa n1 v.sc, .slice v.ba m1 v.bc]); refine (unhide HV1 W3 (unhide HA3)).mono ?_; rintro e W5 ⟨rfl, hb⟩; have HW5 := hide hb; clear hb; obtain ⟨x0, x1⟩ := st_cells (box_below (unhide HY1) (unhide HW5)); obtain ⟨y0, y1⟩ := st_cells (box_below (unhide HY2) (unhide HW5)))
            | (go_at_call 15; refine (unhide HV2 W5 ((unhide HB4).below (unhide HW5))).mono ?_; rintro e W6 ⟨rfl, hb⟩; have HW6 : Hid (Below W3.heap.size W3 W6) := (unhide HW5).trans (hb.mono (unhide HW5).size); clear hb; obtain ⟨x0, x1⟩ := st_cells (box_below (unhide HY1) (unhide HW6)); obtain ⟨y0, y1⟩ := st_cells (box_below (unhide HY2) (unhide HW6)))
            | (go_at_call 54; refine (unhide HMX _ _ W6 (unhide HE) ((unhide HA3).below (unhide HW6)) ((unhide HB4).below (unhide HW6))).mono ?_; rintro e W7 ⟨xm, nm, cm, rfl, h1, h2, h3⟩; have HW7 : Hid (Below W3.heap.size W3 W7) := (unhide HW6).trans (h3.mono (unhide HW6).size); have HM7 := hide (And.intro h1 h2); clear h1 h2 h3; obtain ⟨x0, x1⟩ := st_cells (box_below (unhide HY1) (unhide HW7)); obtain ⟨y0, y1⟩ := st_cells (box_below (unhide HY2) (unhide HW7)))
            | (go_at_call 55; refine (unhide HJD W7 (unhide HOA) (unhide HOB) ((unhide HA3).below (unhide HW7)) ((unhide HB4).below (unhide HW7))).mono ?_; rintro e W8 ⟨xo, nj, cj, rfl, h1, h2, h3⟩; have HW8 : Hid (Below W3.heap.size W3 W8) := (unhide HW7).trans (h3.mono (unhide HW7).size); have HBJ := hide h3; have HN8 := hide h1; have HO8 := hide h2; have hnj : (nj : Int) ≤ 128 := (by have := unhide HJL; have := unhide HN8; omega); have h64 : ¬ (64 : Int) < (nj : Int) := (by have := unhide HH2; have := unhide HN8; omega); clear h1 h2 h3)
            | ((with_reducible refine wpList_store_state (by rfl) (.tmp 4) (.tmp 39) (by rfl) (N + 1 + 1) ⟨xm, cm, xo, cj⟩ nm nj (by with_unfolding_all rfl) (by with_unfolding_all rfl) Sv.none 0 0 (box_below (unhide HX3) (unhide HW8)) ?_); intro W9 HX9 HE9; simp only [Act.put])
            | fail)
          have HMS : Hid (OwnD W9 N (V.mrg a.seen b.seen) xm cm) := by
            rw [unhide HE9]
            refine own_keep (own_down ((unhide HM7).2.below (unhide HBJ)) (by have := (unhide HW6).size; rw [unhide HS3] at this; omega)) fun g hg => heapRow_other _ _ _ _ ?_
            have := (World.ownsRow.lt ((unhide HM7).2) g hg).1
            have := (unhide HW6).size
            rw [unhide HS3] at this
            omega
          have HMB : Hid (OwnS W9 N (jnS a b).sibs xo cj) := by
            rw [unhide HE9]
            refine own_keep (own_down (unhide HO8) (by have := (unhide HW7).size; rw [unhide HS3] at this; omega)) fun g hg => heapRow_other _ _ _ _ ?_
            have := (World.ownsRow.lt (unhide HO8) g hg).1
            have := (unhide HW7).size
            rw [unhide HS3] at this
            omega
          refine bodyPost_ret (results_cell_tmp rfl _ _ (N + 1 + 1) 25 #[.slice (⟨xm, cm, xo, cj⟩ : Sv).sa nm (⟨xm, cm, xo, cj⟩ : Sv).sc, .slice (⟨xm, cm, xo, cj⟩ : Sv).ba nj (⟨xm, cm, xo, cj⟩ : Sv).bc] (0, 0) _ rfl (unhide HX9) stateUnd rfl stateInfo) rfl ?_
          have HB9 : Hid (Below N u W9) := by rw [unhide HE9]; exact belowRow ((unhide HBU).trans ((unhide HW8).mono (by rw [unhide HS3]; omega))) (by omega) _
          exact ⟨(⟨xm, cm, xo, cj⟩ : Sv), nm, nj, rfl, (unhide HM7).1, unhide HN8, ⟨unhide HMS, unhide HMB⟩, unhide HB9⟩
        · rw [join_big oa ob (fun h => h2 h.2)] at hJ
          cases hJ
          have HH2 := hide h2
          clear oa ob h1 h2
          go_enter Try.func26, Try.ntmps26
          go_wp2_with (first
            | ((with_reducible refine wpList_box_state (by rfl) (.tmp 0) (by rfl) (some 2) (by rfl) N (unhide HN) v n1 m1 (by with_unfolding_all rfl) ?_); intro W1 HX1 HB1 HS1; simp only [Act.put, List.setIfInBounds_toArray, List.set_cons_zero, List.set_cons_succ])
            | ((with_reducible refine wpList_box_state (by rfl) (.tmp 1) (by rfl) (some 3) (by rfl) (N + 1) (unhide HS1).symm w n2 m2 (by with_unfolding_all rfl) ?_); intro W2 HX2 HB2 HS2; simp only [Act.put, List.setIfInBounds_toArray, List.set_cons_zero, List.set_cons_succ])
            | ((with_reducible refine wpList_alloc_state (by rfl) (by rfl) (some 4) (by rfl) (N + 1 + 1) (unhide HS2).symm ?_); intro W3 HX3 HB3 HS3; simp only [Act.put, List.setIfInBounds_toArray, List.set_cons_zero, List.set_cons_succ]; have HY1 : Hid (W3.heap[N]? = some (stRow v n1 m1)) := ((unhide HB3).block N (by omega)).trans (((unhide HB2).block N (Nat.lt_succ_self _)).trans (unhide HX1)); have HY2 : Hid (W3.heap[N + 1]? = some (stRow w n2 m2)) := ((unhide HB3).block (N + 1) (Nat.lt_succ_self _)).trans (unhide HX2); have HBU : Hid (Below N u W3) := (unhide HB1).trans (((unhide HB2).mono (Nat.le_succ _)).trans ((unhide HB3).mono (by omega))); have HA3 := hide ((unhide HA).below (by rw [← unhide HN]; exact unhide HBU)); have HB4 := hide ((unhide HB).below (by rw [← unhide HN]; exact unhide HBU)); obtain ⟨x0, x1⟩ := st_cells (unhide HY1); obtain ⟨y0, y1⟩ := st_cells (unhide HY2); clear HX1 HX2 HB1 HB2 HB3 HS1 HS2)
            | (go_at_call_of 15 (Value.agg #[.slice v.sa n1 v.sc, .slice v.ba m1 v.bc]); refine (unhide HV1 W3 (unhide HA3)).mono ?_; rintro e W5 ⟨rfl, hb⟩; have HW5 := hide hb; clear hb; obtain ⟨x0, x1⟩ := st_cells (box_below (unhide HY1) (unhide HW5)); obtain ⟨y0, y1⟩ := st_cells (box_below (unhide HY2) (unhide HW5)))
            | (go_at_call 15; refine (unhide HV2 W5 ((unhide HB4).below (unhide HW5))).mono ?_; rintro e W6 ⟨rfl, hb⟩; have HW6 : Hid (Below W3.heap.size W3 W6) := (unhide HW5).trans (hb.mono (unhide HW5).size); clear hb; obtain ⟨x0, x1⟩ := st_cells (box_below (unhide HY1) (unhide HW6)); obtain ⟨y0, y1⟩ := st_cells (box_below (unhide HY2) (unhide HW6)))
            | (go_at_call 54; refine (unhide HMX _ _ W6 (unhide HE) ((unhide HA3).below (unhide HW6)) ((unhide HB4).below (unhide HW6))).mono ?_; rintro e W7 ⟨xm, nm, cm, rfl, h1, h2, h3⟩; have HW7 : Hid (Below W3.heap.size W3 W7) := (unhide HW6).trans (h3.mono (unhide HW6).size); have HM7 := hide (And.intro h1 h2); clear h1 h2 h3; obtain ⟨x0, x1⟩ := st_cells (box_below (unhide HY1) (unhide HW7)); obtain ⟨y0, y1⟩ := st_cells (box_below (unhide HY2) (unhide HW7)))
            | (go_at_call 55; refine (unhide HJD W7 (unhide HOA) (unhide HOB) ((unhide HA3).below (unhide HW7)) ((unhide HB4).below (unhide HW7))).mono ?_; rintro e W8 ⟨xo, nj, cj, rfl, h1, h2, h3⟩; have HW8 : Hid (Below W3.heap.size W3 W8) := (unhide HW7).trans (h3.mono (unhide HW7).size); have HBJ := hide h3; have HN8 := hide h1; have HO8 := hide h2; have hnj : (nj : Int) ≤ 128 := (by have := unhide HJL; have := unhide HN8; omega); have h64 : (64 : Int) < (nj : Int) := (by have := unhide HH2; have := unhide HN8; omega); clear h1 h2 h3)
            | ((with_reducible refine wpList_store_state (by rfl) (.tmp 4) (.tmp 36) (by rfl) (N + 1 + 1) Sv.none 0 0 (by with_unfolding_all rfl) (by with_unfolding_all rfl) Sv.none 0 0 (box_below (unhide HX3) (unhide HW8)) ?_); intro W9 HX9 HE9; simp only [Act.put])
            | fail)
          refine bodyPost_ret (results_cell_tmp rfl _ _ (N + 1 + 1) 25 #[.slice Sv.none.sa 0 Sv.none.sc, .slice Sv.none.ba 0 Sv.none.bc] (0, 0) _ rfl (unhide HX9) stateUnd rfl stateInfo) rfl ?_
          have HB9 : Hid (Below N u W9) := by rw [unhide HE9]; exact belowRow ((unhide HBU).trans ((unhide HW8).mono (by rw [unhide HS3]; omega))) (by omega) _
          exact ⟨Sv.none, 0, 0, rfl, rfl, rfl, OwnT.none _ _, unhide HB9⟩
      · have HE := hide (max_big oa.ok ob.ok h1)
        rw [join_big oa ob (fun h => h1 h.1)] at hJ
        cases hJ
        clear oa ob h1
        go_enter Try.func26, Try.ntmps26
        go_wp2_with (first
          | ((with_reducible refine wpList_box_state (by rfl) (.tmp 0) (by rfl) (some 2) (by rfl) N (unhide HN) v n1 m1 (by with_unfolding_all rfl) ?_); intro W1 HX1 HB1 HS1; simp only [Act.put, List.setIfInBounds_toArray, List.set_cons_zero, List.set_cons_succ])
          | ((with_reducible refine wpList_box_state (by rfl) (.tmp 1) (by rfl) (some 3) (by rfl) (N + 1) (unhide HS1).symm w n2 m2 (by with_unfolding_all rfl) ?_); intro W2 HX2 HB2 HS2; simp only [Act.put, List.setIfInBounds_toArray, List.set_cons_zero, List.set_cons_succ])
          | ((with_reducible refine wpList_alloc_state (by rfl) (by rfl) (some 4) (by rfl) (N + 1 + 1) (unhide HS2).symm ?_); intro W3 HX3 HB3 HS3; simp only [Act.put, List.setIfInBounds_toArray, List.set_cons_zero, List.set_cons_succ]; have HY1 : Hid (W3.heap[N]? = some (stRow v n1 m1)) := ((unhide HB3).block N (by omega)).trans (((unhide HB2).block N (Nat.lt_succ_self _)).trans (unhide HX1)); have HY2 : Hid (W3.heap[N + 1]? = some (stRow w n2 m2)) := ((unhide HB3).block (N + 1) (Nat.lt_succ_self _)).trans (unhide HX2); have HBU : Hid (Below N u W3) := (unhide HB1).trans (((unhide HB2).mono (Nat.le_succ _)).trans ((unhide HB3).mono (by omega))); have HA3 := hide ((unhide HA).below (by rw [← unhide HN]; exact unhide HBU)); have HB4 := hide ((unhide HB).below (by rw [← unhide HN]; exact unhide HBU)); obtain ⟨x0, x1⟩ := st_cells (unhide HY1); obtain ⟨y0, y1⟩ := st_cells (unhide HY2); clear HX1 HX2 HB1 HB2 HB3 HS1 HS2)
          | (go_at_call_of 15 (Value.agg #[.slice v.sa n1 v.sc, .slice v.ba m1 v.bc]); refine (unhide HV1 W3 (unhide HA3)).mono ?_; rintro e W5 ⟨rfl, hb⟩; have HW5 := hide hb; clear hb; obtain ⟨x0, x1⟩ := st_cells (box_below (unhide HY1) (unhide HW5)); obtain ⟨y0, y1⟩ := st_cells (box_below (unhide HY2) (unhide HW5)))
          | (go_at_call 15; refine (unhide HV2 W5 ((unhide HB4).below (unhide HW5))).mono ?_; rintro e W6 ⟨rfl, hb⟩; have HW6 : Hid (Below W3.heap.size W3 W6) := (unhide HW5).trans (hb.mono (unhide HW5).size); clear hb; obtain ⟨x0, x1⟩ := st_cells (box_below (unhide HY1) (unhide HW6)); obtain ⟨y0, y1⟩ := st_cells (box_below (unhide HY2) (unhide HW6)))
          | (go_at_call 54; refine (unhide HMX _ _ W6 (unhide HE) ((unhide HA3).below (unhide HW6)) ((unhide HB4).below (unhide HW6))).mono ?_; rintro e W7 ⟨xm, nm, cm, rfl, h1, h2, h3⟩; have HW7 : Hid (Below W3.heap.size W3 W7) := (unhide HW6).trans (h3.mono (unhide HW6).size); have HM7 := hide (And.intro h1 h2); clear h1 h2 h3; obtain ⟨x0, x1⟩ := st_cells (box_below (unhide HY1) (unhide HW7)); obtain ⟨y0, y1⟩ := st_cells (box_below (unhide HY2) (unhide HW7)))
          | ((with_reducible refine wpList_store_state (by rfl) (.tmp 4) (.tmp 28) (by rfl) (N + 1 + 1) Sv.none 0 0 (by with_unfolding_all rfl) (by with_unfolding_all rfl) Sv.none 0 0 (box_below (unhide HX3) (unhide HW7)) ?_); intro W9 HX9 HE9; simp only [Act.put])
          | fail)
        refine bodyPost_ret (results_cell_tmp rfl _ _ (N + 1 + 1) 25 #[.slice Sv.none.sa 0 Sv.none.sc, .slice Sv.none.ba 0 Sv.none.bc] (0, 0) _ rfl (unhide HX9) stateUnd rfl stateInfo) rfl ?_
        have HB9 : Hid (Below N u W9) := by rw [unhide HE9]; exact belowRow ((unhide HBU).trans ((unhide HW7).mono (by rw [unhide HS3]; omega))) (by omega) _
        exact ⟨Sv.none, 0, 0, rfl, rfl, rfl, OwnT.none _ _, unhide HB9⟩
    · rw [sokB_true.2 oa] at HV1
      rw [sokB_false.2 ob] at HV2
      rw [join_not (fun h => ob h.2)] at hJ
      cases hJ
      clear oa ob HJD
      go_enter Try.func26, Try.ntmps26
      go_wp2_with (first
        | ((with_reducible refine wpList_box_state (by rfl) (.tmp 0) (by rfl) (some 2) (by rfl) N (unhide HN) v n1 m1 (by with_unfolding_all rfl) ?_); intro W1 HX1 HB1 HS1; simp only [Act.put, List.setIfInBounds_toArray, List.set_cons_zero, List.set_cons_succ])
        | ((with_reducible refine wpList_box_state (by rfl) (.tmp 1) (by rfl) (some 3) (by rfl) (N + 1) (unhide HS1).symm w n2 m2 (by with_unfolding_all rfl) ?_); intro W2 HX2 HB2 HS2; simp only [Act.put, List.setIfInBounds_toArray, List.set_cons_zero, List.set_cons_succ])
        | ((with_reducible refine wpList_alloc_state (by rfl) (by rfl) (some 4) (by rfl) (N + 1 + 1) (unhide HS2).symm ?_); intro W3 HX3 HB3 HS3; simp only [Act.put, List.setIfInBounds_toArray, List.set_cons_zero, List.set_cons_succ]; have HY1 : Hid (W3.heap[N]? = some (stRow v n1 m1)) := ((unhide HB3).block N (by omega)).trans (((unhide HB2).block N (Nat.lt_succ_self _)).trans (unhide HX1)); have HY2 : Hid (W3.heap[N + 1]? = some (stRow w n2 m2)) := ((unhide HB3).block (N + 1) (Nat.lt_succ_self _)).trans (unhide HX2); have HBU : Hid (Below N u W3) := (unhide HB1).trans (((unhide HB2).mono (Nat.le_succ _)).trans ((unhide HB3).mono (by omega))); have HA3 := hide ((unhide HA).below (by rw [← unhide HN]; exact unhide HBU)); have HB4 := hide ((unhide HB).below (by rw [← unhide HN]; exact unhide HBU)); obtain ⟨x0, x1⟩ := st_cells (unhide HY1); obtain ⟨y0, y1⟩ := st_cells (unhide HY2); clear HX1 HX2 HB1 HB2 HB3 HS1 HS2)
        | (go_at_call_of 15 (Value.agg #[.slice v.sa n1 v.sc, .slice v.ba m1 v.bc]); refine (unhide HV1 W3 (unhide HA3)).mono ?_; rintro e W5 ⟨rfl, hb⟩; have HW5 := hide hb; clear hb; obtain ⟨x0, x1⟩ := st_cells (box_below (unhide HY1) (unhide HW5)); obtain ⟨y0, y1⟩ := st_cells (box_below (unhide HY2) (unhide HW5)))
        | (go_at_call 15; refine (unhide HV2 W5 ((unhide HB4).below (unhide HW5))).mono ?_; rintro e W6 ⟨rfl, hb⟩; have HW6 : Hid (Below W3.heap.size W3 W6) := (unhide HW5).trans (hb.mono (unhide HW5).size); clear hb; obtain ⟨x0, x1⟩ := st_cells (box_below (unhide HY1) (unhide HW6)); obtain ⟨y0, y1⟩ := st_cells (box_below (unhide HY2) (unhide HW6)))
        | ((with_reducible refine wpList_store_state (by rfl) (.tmp 4) (.tmp 17) (by rfl) (N + 1 + 1) Sv.none 0 0 (by with_unfolding_all rfl) (by with_unfolding_all rfl) Sv.none 0 0 (box_below (unhide HX3) (unhide HW6)) ?_); intro W9 HX9 HE9; simp only [Act.put])
        | fail)
      refine bodyPost_ret (results_cell_tmp rfl _ _ (N + 1 + 1) 25 #[.slice Sv.none.sa 0 Sv.none.sc, .slice Sv.none.ba 0 Sv.none.bc] (0, 0) _ rfl (unhide HX9) stateUnd rfl stateInfo) rfl ?_
      have HB9 : Hid (Below N u W9) := by rw [unhide HE9]; exact belowRow ((unhide HBU).trans ((unhide HW6).mono (by rw [unhide HS3]; omega))) (by omega) _
      exact ⟨Sv.none, 0, 0, rfl, rfl, rfl, OwnT.none _ _, unhide HB9⟩
  · rw [sokB_false.2 oa] at HV1
    rw [join_not (fun h => oa h.1)] at hJ
    cases hJ
    clear oa HJD
    go_enter Try.func26, Try.ntmps26
    go_wp2_with (first
      | ((with_reducible refine wpList_box_state (by rfl) (.tmp 0) (by rfl) (some 2) (by rfl) N (unhide HN) v n1 m1 (by with_unfolding_all rfl) ?_); intro W1 HX1 HB1 HS1; simp only [Act.put, List.setIfInBounds_toArray, List.set_cons_zero, List.set_cons_succ])
      | ((with_reducible refine wpList_box_state (by rfl) (.tmp 1) (by rfl) (some 3) (by rfl) (N + 1) (unhide HS1).symm w n2 m2 (by with_unfolding_all rfl) ?_); intro W2 HX2 HB2 HS2; simp only [Act.put, List.setIfInBounds_toArray, List.set_cons_zero, List.set_cons_succ])
      | ((with_reducible refine wpList_alloc_state (by rfl) (by rfl) (some 4) (by rfl) (N + 1 + 1) (unhide HS2).symm ?_); intro W3 HX3 HB3 HS3; simp only [Act.put, List.setIfInBounds_toArray, List.set_cons_zero, List.set_cons_succ]; have HY1 : Hid (W3.heap[N]? = some (stRow v n1 m1)) := ((unhide HB3).block N (by omega)).trans (((unhide HB2).block N (Nat.lt_succ_self _)).trans (unhide HX1)); have HY2 : Hid (W3.heap[N + 1]? = some (stRow w n2 m2)) := ((unhide HB3).block (N + 1) (Nat.lt_succ_self _)).trans (unhide HX2); have HBU : Hid (Below N u W3) := (unhide HB1).trans (((unhide HB2).mono (Nat.le_succ _)).trans ((unhide HB3).mono (by omega))); have HA3 := hide ((unhide HA).below (by rw [← unhide HN]; exact unhide HBU)); have HB4 := hide ((unhide HB).below (by rw [← unhide HN]; exact unhide HBU)); obtain ⟨x0, x1⟩ := st_cells (unhide HY1); obtain ⟨y0, y1⟩ := st_cells (unhide HY2); clear HX1 HX2 HB1 HB2 HB3 HS1 HS2)
      | (go_at_call_of 15 (Value.agg #[.slice v.sa n1 v.sc, .slice v.ba m1 v.bc]); refine (unhide HV1 W3 (unhide HA3)).mono ?_; rintro e W5 ⟨rfl, hb⟩; have HW5 := hide hb; clear hb; obtain ⟨x0, x1⟩ := st_cells (box_below (unhide HY1) (unhide HW5)); obtain ⟨y0, y1⟩ := st_cells (box_below (unhide HY2) (unhide HW5)))
      | ((with_reducible refine wpList_store_state (by rfl) (.tmp 4) (.tmp 17) (by rfl) (N + 1 + 1) Sv.none 0 0 (by with_unfolding_all rfl) (by with_unfolding_all rfl) Sv.none 0 0 (box_below (unhide HX3) (unhide HW5)) ?_); intro W9 HX9 HE9; simp only [Act.put])
      | fail)
    refine bodyPost_ret (results_cell_tmp rfl _ _ (N + 1 + 1) 25 #[.slice Sv.none.sa 0 Sv.none.sc, .slice Sv.none.ba 0 Sv.none.bc] (0, 0) _ rfl (unhide HX9) stateUnd rfl stateInfo) rfl ?_
    have HB9 : Hid (Below N u W9) := by rw [unhide HE9]; exact belowRow ((unhide HBU).trans ((unhide HW5).mono (by rw [unhide HS3]; omega))) (by omega) _
    exact ⟨Sv.none, 0, 0, rfl, rfl, rfl, OwnT.none _ _, unhide HB9⟩
end Go.Proofs.Ytbahfpcfjhifbaa
