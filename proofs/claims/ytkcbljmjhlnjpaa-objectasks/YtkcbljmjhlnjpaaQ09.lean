/- Put together out of Yj, Xia, Xgb. -/
import Derived.Test.YtkcbljmjhlnjpaaQ08
import Derived.Test.YtkcbljmjhlnjpaaQ06
namespace Go.Proofs.Ytkcbljmjhlnjpaa
open Go.RowKit Go.Lib
/-- a state whose lists are one's own -/
structure OwnT (w : World) (B : Nat) (s : St) (v : Sv) : Prop where
  seen : OwnD w B s.seen v.sa v.sc
  sibs : OwnS w B s.sibs v.ba v.bc
theorem OwnT.below {w w' : World} {B : Nat} {s : St} {v : Sv} (h : OwnT w B s v) (hb : Below w.heap.size w w') : OwnT w' B s v := ⟨h.seen.below hb, h.sibs.below hb⟩
theorem OwnT.down {w : World} {B B' : Nat} {s : St} {v : Sv} (h : OwnT w B s v) (hb : B' ≤ B) : OwnT w B' s v := ⟨own_down h.seen hb, own_down h.sibs hb⟩
theorem OwnT.none (w : World) (B : Nat) : OwnT w B St.none Sv.none := ⟨World.ownsRow_nil _ _ _ _, OwnS.nil _ _⟩
/-- what a state may hold -/
structure FitT (s : St) : Prop where
  seen : Fits s.seen
  sibs : FitS s.sibs
theorem OwnT.at {w : World} {B : Nat} {s : St} {v : Sv} (h : OwnT w B s v) (hf : FitT s) (ho : SOk s) : SAt w s v :=
  ⟨⟨h.seen.dv, hf.seen, by have := ho.slen; omega⟩, h.sibs.sa hf.sibs (by have := ho.len; omega)⟩
theorem SAt.fit {w : World} {s : St} {v : Sv} (h : SAt w s v) : FitT s := ⟨h.seen.fits, h.sibs.fits⟩
theorem fit_none : FitT St.none := ⟨fun _ h => (by cases h), fun _ h => (by cases h)⟩
theorem fit_jn {a b : St} (ha : FitT a) (hb : FitT b) : FitT (jnS a b) := ⟨fits_mrg ha.seen hb.seen, fun x hx => by
  rcases jn_from x hx with h | h
  · exact ha.sibs x h
  · exact hb.sibs x h⟩
theorem kMaxO {W0 : World} {a b : List (Nat × Nat)} {xa xb : Option Addr} {ca cb na nb : Nat} (m : List (Nat × Nat)) (r : Int) (hr : maxV a b = (m, r)) (ea : na = a.length) (eb : nb = b.length) (ha : Da W0 a xa ca) (hb : Da W0 b xb cb) : Calls Try.prog 88 #[.slice xa na ca, .slice xb nb cb] W0 fun e W' => ∃ xm nm cm, e = .returned (.tuple #[.slice xm nm cm, .int .i64 r]) ∧ nm = m.length ∧ OwnD W' W0.heap.size m xm cm ∧ Below W0.heap.size W0 W' := by
  subst ea eb
  refine (vMax a b xa xb ca cb W0 ha hb).mono ?_
  rintro e W' ⟨ao, c, rfl, h1, h2⟩
  rw [hr] at h1 ⊢
  exact ⟨ao, _, c, rfl, rfl, h1, h2⟩
theorem join_ok {a b : St} (ha : SOk a) (hb : SOk b) (h1 : (V.mrg a.seen b.seen).length ≤ 64) (h2 : (jnS a b).sibs.length ≤ 64) : joinV a b = (jnS a b, 0) := by
  unfold joinV; rw [sokB_true.2 ha, sokB_true.2 hb, if_pos (show (true && true) = true from rfl), if_pos ⟨h1, h2⟩]
theorem join_big {a b : St} (ha : SOk a) (hb : SOk b) (h : ¬ ((V.mrg a.seen b.seen).length ≤ 64 ∧ (jnS a b).sibs.length ≤ 64)) : joinV a b = (St.none, 82) := by
  unfold joinV; rw [sokB_true.2 ha, sokB_true.2 hb, if_pos (show (true && true) = true from rfl), if_neg h]
theorem join_not {a b : St} (h : ¬ (SOk a ∧ SOk b)) : joinV a b = (St.none, 110) := by
  unfold joinV
  rw [if_neg]
  rw [Bool.and_eq_true, sokB_true, sokB_true]; exact h
theorem jnS_ok {a b : St} (ha : SOk a) (hb : SOk b) (h1 : (V.mrg a.seen b.seen).length ≤ 64) (h2 : (jnS a b).sibs.length ≤ 64) : SOk (jnS a b) := ⟨jnS_sv ha.toSV hb.toSV, h1, h2⟩
set_option maxRecDepth 100000 in
set_option maxHeartbeats 4000000 in
theorem dJoin (a b : St) (v w : Sv) (u : World) (ha : SAt u a v) (hb : SAt u b w) (J : St) (r : Int) (hJ : joinV a b = (J, r)) : Calls Try.prog 50 #[v.v a.seen.length a.sibs.length, w.v b.seen.length b.sibs.length] u fun e u' => ∃ x n m, e = .returned (.tuple #[Sv.v x n m, .int .i64 r]) ∧ n = J.seen.length ∧ m = J.sibs.length ∧ OwnT u' u.heap.size J x ∧ Below u.heap.size u u' := by
  obtain ⟨N, hN⟩ : ∃ N, N = u.heap.size := ⟨_, rfl⟩
  have HN := hide hN
  have HA := hide ha
  have HB := hide hb
  rw [← hN]
  clear hN ha hb
  obtain ⟨n1, hn1⟩ : ∃ n, n = a.seen.length := ⟨_, rfl⟩
  obtain ⟨m1, hm1⟩ : ∃ n, n = a.sibs.length := ⟨_, rfl⟩
  obtain ⟨n2, hn2⟩ : ∃ n, n = b.seen.length := ⟨_, rfl⟩
  obtain ⟨m2, hm2⟩ : ∃ n, n = b.sibs.length := ⟨_, rfl⟩
  have E1 := hide hn1
  have E2 := hide hm1
  have E3 := hide hn2
  have E4 := hide hm2
  have HV1 : Hid (∀ W : World, SAt W a v → Calls Try.prog 81 #[v.v n1 m1] W fun e W' => e = .returned (.bool (sokB a)) ∧ Below W.heap.size W W') := fun W h => by rw [hn1, hm1]; exact dValid' a v W h
  have HV2 : Hid (∀ W : World, SAt W b w → Calls Try.prog 81 #[w.v n2 m2] W fun e W' => e = .returned (.bool (sokB b)) ∧ Below W.heap.size W W') := fun W h => by rw [hn2, hm2]; exact dValid' b w W h
  have HMX : Hid (∀ (m : List (Nat × Nat)) (r : Int) (W : World), maxV a.seen b.seen = (m, r) → SAt W a v → SAt W b w → Calls Try.prog 88 #[.slice v.sa n1 v.sc, .slice w.sa n2 w.sc] W fun e W' => ∃ xm nm cm, e = .returned (.tuple #[.slice xm nm cm, .int .i64 r]) ∧ nm = m.length ∧ OwnD W' W.heap.size m xm cm ∧ Below W.heap.size W W') := fun m r W hr h1 h2 => kMaxO m r hr hn1 hn2 h1.seen h2.seen
  have HJD : Hid (∀ W : World, SOk a → SOk b → SAt W a v → SAt W b w → Calls Try.prog 89 #[v.v n1 m1, w.v n2 m2] W fun e W' => ∃ xo n c, e = .returned (.slice xo n c) ∧ n = (jnS a b).sibs.length ∧ OwnS W' W.heap.size (jnS a b).sibs xo c ∧ Below W.heap.size W W') := fun W oa ob h1 h2 => by rw [hn1, hm1, hn2, hm2]; exact dJoined a b v w W h1 h2 oa ob
  rw [← hn1, ← hm1, ← hn2, ← hm2]
  clear hn1 hm1 hn2 hm2
  by_cases oa : SOk a
  · by_cases ob : SOk b
    · rw [sokB_true.2 oa] at HV1
      rw [sokB_true.2 ob] at HV2
      have HOA := hide oa
      have HOB := hide ob
      have HJL : Hid ((jnS a b).sibs.length ≤ 128) := hide (by
        have := jn_len a.seen b.seen a.sibs b.sibs
        have := oa.len
        have := ob.len
        show (jn a.seen b.seen a.sibs b.sibs).length ≤ 128
        omega)
      by_cases h1 : (V.mrg a.seen b.seen).length ≤ 64
      · have HE := hide (max_ok oa.ok ob.ok h1)
        by_cases h2 : (jnS a b).sibs.length ≤ 64
        · rw [join_ok oa ob h1 h2] at hJ
          cases hJ
          have HH2 := hide h2
          clear oa ob h1 h2
          go_enter Try.func50, Try.ntmps50
          go_wp2_with (first
            | ((with_reducible refine wpList_box_state (by rfl) (.tmp 0) (by rfl) (some 2) (by rfl) N (unhide HN) v n1 m1 (by with_unfolding_all rfl) ?_); intro W1 HX1 HB1 HS1; simp only [Act.put, List.setIfInBounds_toArray, List.set_cons_zero, List.set_cons_succ])
            | ((with_reducible refine wpList_box_state (by rfl) (.tmp 1) (by rfl) (some 3) (by rfl) (N + 1) (unhide HS1).symm w n2 m2 (by with_unfolding_all rfl) ?_); intro W2 HX2 HB2 HS2; simp only [Act.put, List.setIfInBounds_toArray, List.set_cons_zero, List.set_cons_succ])
            | ((with_reducible refine wpList_alloc_state (by rfl) (by rfl) (some 4) (by rfl) (N + 1 + 1) (unhide HS2).symm ?_); intro W3 HX3 HB3 HS3; simp only [Act.put, List.setIfInBounds_toArray, List.set_cons_zero, List.set_cons_succ]; have HY1 : Hid (W3.heap[N]? = some (stRow v n1 m1)) := ((unhide HB3).block N (by omega)).trans (((unhide HB2).block N (Nat.lt_succ_self _)).trans (unhide HX1)); have HY2 : Hid (W3.heap[N + 1]? = some (stRow w n2 m2)) := ((unhide HB3).block (N + 1) (Nat.lt_succ_self _)).trans (unhide HX2); have HBU : Hid (Below N u W3) := (unhide HB1).trans (((unhide HB2).mono (Nat.le_succ _)).trans ((unhide HB3).mono (by omega))); have HA3 := hide ((unhide HA).below (by rw [← unhide HN]; exact unhide HBU)); have HB4 := hide ((unhide HB).below (by rw [← unhide HN]; exact unhide HBU)); obtain ⟨x0, x1⟩ := st_cells (unhide HY1); obtain ⟨y0, y1⟩ := st_cells (unhide HY2); clear HX1 HX2 HB1 HB2 HB3 HS1 HS2)
            | (go_at_call_of 81 (Value.agg #[.slice v.sa n1 v.sc, .slice v.ba m1 v.bc]); refine (unhide HV1 W3 (unhide HA3)).mono ?_; rintro e W5 ⟨rfl, hb⟩; have HW5 := hide hb; clear hb; obtain ⟨x0, x1⟩ := st_cells (box_below (unhide HY1) (unhide HW5)); obtain ⟨y0, y1⟩ := st_cells (box_below (unhide HY2) (unhide HW5)))
            | (go_at_call 81; refine (unhide HV2 W5 ((unhide HB4).below (unhide HW5))).mono ?_; rintro e W6 ⟨rfl, hb⟩; have HW6 : Hid (Below W3.heap.size W3 W6) := (unhide HW5).trans (hb.mono (unhide HW5).size); clear hb; obtain ⟨x0, x1⟩ := st_cells (box_below (unhide HY1) (unhide HW6)); obtain ⟨y0, y1⟩ := st_cells (box_below (unhide HY2) (unhide HW6)))
            | (go_at_call 88; refine (unhide HMX _ _ W6 (unhide HE) ((unhide HA3).below (unhide HW6)) ((unhide HB4).below (unhide HW6))).mono ?_; rintro e W7 ⟨xm, nm, cm, rfl, h1, h2, h3⟩; have HW7 : Hid (Below W3.heap.size W3 W7) := (unhide HW6).trans (h3.mono (unhide HW6).size); have HM7 := hide (And.intro h1 h2); clear h1 h2 h3; obtain ⟨x0, x1⟩ := st_cells (box_below (unhide HY1) (unhide HW7)); obtain ⟨y0, y1⟩ := st_cells (box_below (unhide HY2) (unhide HW7)))
            | (go_at_call 89; refine (unhide HJD W7 (unhide HOA) (unhide HOB) ((unhide HA3).below (unhide HW7)) ((unhide HB4).below (unhide HW7))).mono ?_; rintro e W8 ⟨xo, nj, cj, rfl, h1, h2, h3⟩; have HW8 : Hid (Below W3.heap.size W3 W8) := (unhide HW7).trans (h3.mono (unhide HW7).size); have HBJ := hide h3; have HN8 := hide h1; have HO8 := hide h2; have hnj : (nj : Int) ≤ 128 := (by have := unhide HJL; have := unhide HN8; omega); have h64 : ¬ (64 : Int) < (nj : Int) := (by have := unhide HH2; have := unhide HN8; omega); clear h1 h2 h3)
            | ((with_reducible refine wpList_store_state (by rfl) (.tmp 4) (.tmp 39) (by rfl) (N + 1 + 1) ⟨xm, cm, xo, cj⟩ nm nj (by with_unfolding_all rfl) (by with_unfolding_all rfl) Sv.none 0 0 (box_below (unhide HX3) (unhide HW8)) ?_); intro W9 HX9 HE9; simp only [Act.put])
            | fail)
          have HMS : Hid (OwnD W9 N (V.mrg a.seen b.seen) xm cm) := by
            rw [unhide HE9]
            refine own_keep (own_down ((unhide HM7).2.below (unhide HBJ)) (by have := (unhide HW6).size; rw [unhide HS3] at this; omega)) fun g hg => heapRow_other _ _ _ _ ?_
            have := (World.ownsRow.lt ((unhide HM7).2) g hg).1
            have := (unhide HW6).size
            rw [unhide HS3] at this
            omega
          have HMB : Hid (OwnS W9 N (jnS a b).sibs xo cj) := by
            rw [unhide HE9]
            refine own_keep (own_down (unhide HO8) (by have := (unhide HW7).size; rw [unhide HS3] at this; omega)) fun g hg => heapRow_other _ _ _ _ ?_
            have := (World.ownsRow.lt (unhide HO8) g hg).1
            have := (unhide HW7).size
            rw [unhide HS3] at this
            omega
          refine bodyPost_ret (results_cell_tmp rfl _ _ (N + 1 + 1) 31 #[.slice (⟨xm, cm, xo, cj⟩ : Sv).sa nm (⟨xm, cm, xo, cj⟩ : Sv).sc, .slice (⟨xm, cm, xo, cj⟩ : Sv).ba nj (⟨xm, cm, xo, cj⟩ : Sv).bc] (0, 0) _ rfl (unhide HX9) stateUnd rfl stateInfo) rfl ?_
          have HB9 : Hid (Below N u W9) := by rw [unhide HE9]; exact belowRow ((unhide HBU).trans ((unhide HW8).mono (by rw [unhide HS3]; omega))) (by omega) _
          exact ⟨(⟨xm, cm, xo, cj⟩ : Sv), nm, nj, rfl, (unhide HM7).1, unhide HN8, ⟨unhide HMS, unhide HMB⟩, unhide HB9⟩
        · rw [join_big oa ob (fun h => h2 h.2)] at hJ
          cases hJ
          have HH2 := hide h2
          clear oa ob h1 h2
          go_enter Try.func50, Try.ntmps50
          go_wp2_with (first
            | ((with_reducible refine wpList_box_state (by rfl) (.tmp 0) (by rfl) (some 2) (by rfl) N (unhide HN) v n1 m1 (by with_unfolding_all rfl) ?_); intro W1 HX1 HB1 HS1; simp only [Act.put, List.setIfInBounds_toArray, List.set_cons_zero, List.set_cons_succ])
            | ((with_reducible refine wpList_box_state (by rfl) (.tmp 1) (by rfl) (some 3) (by rfl) (N + 1) (unhide HS1).symm w n2 m2 (by with_unfolding_all rfl) ?_); intro W2 HX2 HB2 HS2; simp only [Act.put, List.setIfInBounds_toArray, List.set_cons_zero, List.set_cons_succ])
            | ((with_reducible refine wpList_alloc_state (by rfl) (by rfl) (some 4) (by rfl) (N + 1 + 1) (unhide HS2).symm ?_); intro W3 HX3 HB3 HS3; simp only [Act.put, List.setIfInBounds_toArray, List.set_cons_zero, List.set_cons_succ]; have HY1 : Hid (W3.heap[N]? = some (stRow v n1 m1)) := ((unhide HB3).block N (by omega)).trans (((unhide HB2).block N (Nat.lt_succ_self _)).trans (unhide HX1)); have HY2 : Hid (W3.heap[N + 1]? = some (stRow w n2 m2)) := ((unhide HB3).block (N + 1) (Nat.lt_succ_self _)).trans (unhide HX2); have HBU : Hid (Below N u W3) := (unhide HB1).trans (((unhide HB2).mono (Nat.le_succ _)).trans ((unhide HB3).mono (by omega))); have HA3 := hide ((unhide HA).below (by rw [← unhide HN]; exact unhide HBU)); have HB4 := hide ((unhide HB).below (by rw [← unhide HN]; exact unhide HBU)); obtain ⟨x0, x1⟩ := st_cells (unhide HY1); obtain ⟨y0, y1⟩ := st_cells (unhide HY2); clear HX1 HX2 HB1 HB2 HB3 HS1 HS2)
            | (go_at_call_of 81 (Value.agg #[.slice v.sa n1 v.sc, .slice v.ba m1 v.bc]); refine (unhide HV1 W3 (unhide HA3)).mono ?_; rintro e W5 ⟨rfl, hb⟩; have HW5 := hide hb; clear hb; obtain ⟨x0, x1⟩ := st_cells (box_below (unhide HY1) (unhide HW5)); obtain ⟨y0, y1⟩ := st_cells (box_below (unhide HY2) (unhide HW5)))
            | (go_at_call 81; refine (unhide HV2 W5 ((unhide HB4).below (unhide HW5))).mono ?_; rintro e W6 ⟨rfl, hb⟩; have HW6 : Hid (Below W3.heap.size W3 W6) := (unhide HW5).trans (hb.mono (unhide HW5).size); clear hb; obtain ⟨x0, x1⟩ := st_cells (box_below (unhide HY1) (unhide HW6)); obtain ⟨y0, y1⟩ := st_cells (box_below (unhide HY2) (unhide HW6)))
            | (go_at_call 88; refine (unhide HMX _ _ W6 (unhide HE) ((unhide HA3).below (unhide HW6)) ((unhide HB4).below (unhide HW6))).mono ?_; rintro e W7 ⟨xm, nm, cm, rfl, h1, h2, h3⟩; have HW7 : Hid (Below W3.heap.size W3 W7) := (unhide HW6).trans (h3.mono (unhide HW6).size); have HM7 := hide (And.intro h1 h2); clear h1 h2 h3; obtain ⟨x0, x1⟩ := st_cells (box_below (unhide HY1) (unhide HW7)); obtain ⟨y0, y1⟩ := st_cells (box_below (unhide HY2) (unhide HW7)))
            | (go_at_call 89; refine (unhide HJD W7 (unhide HOA) (unhide HOB) ((unhide HA3).below (unhide HW7)) ((unhide HB4).below (unhide HW7))).mono ?_; rintro e W8 ⟨xo, nj, cj, rfl, h1, h2, h3⟩; have HW8 : Hid (Below W3.heap.size W3 W8) := (unhide HW7).trans (h3.mono (unhide HW7).size); have HBJ := hide h3; have HN8 := hide h1; have HO8 := hide h2; have hnj : (nj : Int) ≤ 128 := (by have := unhide HJL; have := unhide HN8; omega); have h64 : (64 : Int) < (nj : Int) := (by have := unhide HH2; have := unhide HN8; omega); clear h1 h2 h3)
            | ((with_reducible refine wpList_store_state (by rfl) (.tmp 4) (.tmp 36) (by rfl) (N + 1 + 1) Sv.none 0 0 (by with_unfolding_all rfl) (by with_unfolding_all rfl) Sv.none 0 0 (box_below (unhide HX3) (unhide HW8)) ?_); intro W9 HX9 HE9; simp only [Act.put])
            | fail)
          refine bodyPost_ret (results_cell_tmp rfl _ _ (N + 1 + 1) 31 #[.slice Sv.none.sa 0 Sv.none.sc, .slice Sv.none.ba 0 Sv.none.bc] (0, 0) _ rfl (unhide HX9) stateUnd rfl stateInfo) rfl ?_
          have HB9 : Hid (Below N u W9) := by rw [unhide HE9]; exact belowRow ((unhide HBU).trans ((unhide HW8).mono (by rw [unhide HS3]; omega))) (by omega) _
          exact ⟨Sv.none, 0, 0, rfl, rfl, rfl, OwnT.none _ _, unhide HB9⟩
      · have HE := hide (max_big oa.ok ob.ok h1)
        rw [join_big oa ob (fun h => h1 h.1)] at hJ
        cases hJ
        clear oa ob h1
        go_enter Try.func50, Try.ntmps50
        go_wp2_with (first
          | ((with_reducible refine wpList_box_state (by rfl) (.tmp 0) (by rfl) (some 2) (by rfl) N (unhide HN) v n1 m1 (by with_unfolding_all rfl) ?_); intro W1 HX1 HB1 HS1; simp only [Act.put, List.setIfInBounds_toArray, List.set_cons_zero, List.set_cons_succ])
          | ((with_reducible refine wpList_box_state (by rfl) (.tmp 1) (by rfl) (some 3) (by rfl) (N + 1) (unhide HS1).symm w n2 m2 (by with_unfolding_all rfl) ?_); intro W2 HX2 HB2 HS2; simp only [Act.put, List.setIfInBounds_toArray, List.set_cons_zero, List.set_cons_succ])
          | ((with_reducible refine wpList_alloc_state (by rfl) (by rfl) (some 4) (by rfl) (N + 1 + 1) (unhide HS2).symm ?_); intro W3 HX3 HB3 HS3; simp only [Act.put, List.setIfInBounds_toArray, List.set_cons_zero, List.set_cons_succ]; have HY1 : Hid (W3.heap[N]? = some (stRow v n1 m1)) := ((unhide HB3).block N (by omega)).trans (((unhide HB2).block N (Nat.lt_succ_self _)).trans (unhide HX1)); have HY2 : Hid (W3.heap[N + 1]? = some (stRow w n2 m2)) := ((unhide HB3).block (N + 1) (Nat.lt_succ_self _)).trans (unhide HX2); have HBU : Hid (Below N u W3) := (unhide HB1).trans (((unhide HB2).mono (Nat.le_succ _)).trans ((unhide HB3).mono (by omega))); have HA3 := hide ((unhide HA).below (by rw [← unhide HN]; exact unhide HBU)); have HB4 := hide ((unhide HB).below (by rw [← unhide HN]; exact unhide HBU)); obtain ⟨x0, x1⟩ := st_cells (unhide HY1); obtain ⟨y0, y1⟩ := st_cells (unhide HY2); clear HX1 HX2 HB1 HB2 HB3 HS1 HS2)
          | (go_at_call_of 81 (Value.agg #[.slice v.sa n1 v.sc, .slice v.ba m1 v.bc]); refine (unhide HV1 W3 (unhide HA3)).mono ?_; rintro e W5 ⟨rfl, hb⟩; have HW5 := hide hb; clear hb; obtain ⟨x0, x1⟩ := st_cells (box_below (unhide HY1) (unhide HW5)); obtain ⟨y0, y1⟩ := st_cells (box_below (unhide HY2) (unhide HW5)))
          | (go_at_call 81; refine (unhide HV2 W5 ((unhide HB4).below (unhide HW5))).mono ?_; rintro e W6 ⟨rfl, hb⟩; have HW6 : Hid (Below W3.heap.size W3 W6) := (unhide HW5).trans (hb.mono (unhide HW5).size); clear hb; obtain ⟨x0, x1⟩ := st_cells (box_below (unhide HY1) (unhide HW6)); obtain ⟨y0, y1⟩ := st_cells (box_below (unhide HY2) (unhide HW6)))
          | (go_at_call 88; refine (unhide HMX _ _ W6 (unhide HE) ((unhide HA3).below (unhide HW6)) ((unhide HB4).below (unhide HW6))).mono ?_; rintro e W7 ⟨xm, nm, cm, rfl, h1, h2, h3⟩; have HW7 : Hid (Below W3.heap.size W3 W7) := (unhide HW6).trans (h3.mono (unhide HW6).size); have HM7 := hide (And.intro h1 h2); clear h1 h2 h3; obtain ⟨x0, x1⟩ := st_cells (box_below (unhide HY1) (unhide HW7)); obtain ⟨y0, y1⟩ := st_cells (box_below (unhide HY2) (unhide HW7)))
          | ((with_reducible refine wpList_store_state (by rfl) (.tmp 4) (.tmp 28) (by rfl) (N + 1 + 1) Sv.none 0 0 (by with_unfolding_all rfl) (by with_unfolding_all rfl) Sv.none 0 0 (box_below (unhide HX3) (unhide HW7)) ?_); intro W9 HX9 HE9; simp only [Act.put])
          | fail)
        refine bodyPost_ret (results_cell_tmp rfl _ _ (N + 1 + 1) 31 #[.slice Sv.none.sa 0 Sv.none.sc, .slice Sv.none.ba 0 Sv.none.bc] (0, 0) _ rfl (unhide HX9) stateUnd rfl stateInfo) rfl ?_
        have HB9 : Hid (Below N u W9) := by rw [unhide HE9]; exact belowRow ((unhide HBU).trans ((unhide HW7).mono (by rw [unhide HS3]; omega))) (by omega) _
        exact ⟨Sv.none, 0, 0, rfl, rfl, rfl, OwnT.none _ _, unhide HB9⟩
    · rw [sokB_true.2 oa] at HV1
      rw [sokB_false.2 ob] at HV2
      rw [join_not (fun h => ob h.2)] at hJ
      cases hJ
      clear oa ob HJD
      go_enter Try.func50, Try.ntmps50
      go_wp2_with (first
        | ((with_reducible refine wpList_box_state (by rfl) (.tmp 0) (by rfl) (some 2) (by rfl) N (unhide HN) v n1 m1 (by with_unfolding_all rfl) ?_); intro W1 HX1 HB1 HS1; simp only [Act.put, List.setIfInBounds_toArray, List.set_cons_zero, List.set_cons_succ])
        | ((with_reducible refine wpList_box_state (by rfl) (.tmp 1) (by rfl) (some 3) (by rfl) (N + 1) (unhide HS1).symm w n2 m2 (by with_unfolding_all rfl) ?_); intro W2 HX2 HB2 HS2; simp only [Act.put, List.setIfInBounds_toArray, List.set_cons_zero, List.set_cons_succ])
        | ((with_reducible refine wpList_alloc_state (by rfl) (by rfl) (some 4) (by rfl) (N + 1 + 1) (unhide HS2).symm ?_); intro W3 HX3 HB3 HS3; simp only [Act.put, List.setIfInBounds_toArray, List.set_cons_zero, List.set_cons_succ]; have HY1 : Hid (W3.heap[N]? = some (stRow v n1 m1)) := ((unhide HB3).block N (by omega)).trans (((unhide HB2).block N (Nat.lt_succ_self _)).trans (unhide HX1)); have HY2 : Hid (W3.heap[N + 1]? = some (stRow w n2 m2)) := ((unhide HB3).block (N + 1) (Nat.lt_succ_self _)).trans (unhide HX2); have HBU : Hid (Below N u W3) := (unhide HB1).trans (((unhide HB2).mono (Nat.le_succ _)).trans ((unhide HB3).mono (by omega))); have HA3 := hide ((unhide HA).below (by rw [← unhide HN]; exact unhide HBU)); have HB4 := hide ((unhide HB).below (by rw [← unhide HN]; exact unhide HBU)); obtain ⟨x0, x1⟩ := st_cells (unhide HY1); obtain ⟨y0, y1⟩ := st_cells (unhide HY2); clear HX1 HX2 HB1 HB2 HB3 HS1 HS2)
        | (go_at_call_of 81 (Value.agg #[.slice v.sa n1 v.sc, .slice v.ba m1 v.bc]); refine (unhide HV1 W3 (unhide HA3)).mono ?_; rintro e W5 ⟨rfl, hb⟩; have HW5 := hide hb; clear hb; obtain ⟨x0, x1⟩ := st_cells (box_below (unhide HY1) (unhide HW5)); obtain ⟨y0, y1⟩ := st_cells (box_below (unhide HY2) (unhide HW5)))
        | (go_at_call 81; refine (unhide HV2 W5 ((unhide HB4).below (unhide HW5))).mono ?_; rintro e W6 ⟨rfl, hb⟩; have HW6 : Hid (Below W3.heap.size W3 W6) := (unhide HW5).trans (hb.mono (unhide HW5).size); clear hb; obtain ⟨x0, x1⟩ := st_cells (box_below (unhide HY1) (unhide HW6)); obtain ⟨y0, y1⟩ := st_cells (box_below (unhide HY2) (unhide HW6)))
        | ((with_reducible refine wpList_store_state (by rfl) (.tmp 4) (.tmp 17) (by rfl) (N + 1 + 1) Sv.none 0 0 (by with_unfolding_all rfl) (by with_unfolding_all rfl) Sv.none 0 0 (box_below (unhide HX3) (unhide HW6)) ?_); intro W9 HX9 HE9; simp only [Act.put])
        | fail)
      refine bodyPost_ret (results_cell_tmp rfl _ _ (N + 1 + 1) 31 #[.slice Sv.none.sa 0 Sv.none.sc, .slice Sv.none.ba 0 Sv.none.bc] (0, 0) _ rfl (unhide HX9) stateUnd rfl stateInfo) rfl ?_
      have HB9 : Hid (Below N u W9) := by rw [unhide HE9]; exact belowRow ((unhide HBU).trans ((unhide HW6).mono (by rw [unhide HS3]; omega))) (by omega) _
      exact ⟨Sv.none, 0, 0, rfl, rfl, rfl, OwnT.none _ _, unhide HB9⟩
  · rw [sokB_false.2 oa] at HV1
    rw [join_not (fun h => oa h.1)] at hJ
    cases hJ
    clear oa HJD
    go_enter Try.func50, Try.ntmps50
    go_wp2_with (first
      | ((with_reducible refine wpList_box_state (by rfl) (.tmp 0) (by rfl) (some 2) (by rfl) N (unhide HN) v n1 m1 (by with_unfolding_all rfl) ?_); intro W1 HX1 HB1 HS1; simp only [Act.put, List.setIfInBounds_toArray, List.set_cons_zero, List.set_cons_succ])
      | ((with_reducible refine wpList_box_state (by rfl) (.tmp 1) (by rfl) (some 3) (by rfl) (N + 1) (unhide HS1).symm w n2 m2 (by with_unfolding_all rfl) ?_); intro W2 HX2 HB2 HS2; simp only [Act.put, List.setIfInBounds_toArray, List.set_cons_zero, List.set_cons_succ])
      | ((with_reducible refine wpList_alloc_state (by rfl) (by rfl) (some 4) (by rfl) (N + 1 + 1) (unhide HS2).symm ?_); intro W3 HX3 HB3 HS3; simp only [Act.put, List.setIfInBounds_toArray, List.set_cons_zero, List.set_cons_succ]; have HY1 : Hid (W3.heap[N]? = some (stRow v n1 m1)) := ((unhide HB3).block N (by omega)).trans (((unhide HB2).block N (Nat.lt_succ_self _)).trans (unhide HX1)); have HY2 : Hid (W3.heap[N + 1]? = some (stRow w n2 m2)) := ((unhide HB3).block (N + 1) (Nat.lt_succ_self _)).trans (unhide HX2); have HBU : Hid (Below N u W3) := (unhide HB1).trans (((unhide HB2).mono (Nat.le_succ _)).trans ((unhide HB3).mono (by omega))); have HA3 := hide ((unhide HA).below (by rw [← unhide HN]; exact unhide HBU)); have HB4 := hide ((unhide HB).below (by rw [← unhide HN]; exact unhide HBU)); obtain ⟨x0, x1⟩ := st_cells (unhide HY1); obtain ⟨y0, y1⟩ := st_cells (unhide HY2); clear HX1 HX2 HB1 HB2 HB3 HS1 HS2)
      | (go_at_call_of 81 (Value.agg #[.slice v.sa n1 v.sc, .slice v.ba m1 v.bc]); refine (unhide HV1 W3 (unhide HA3)).mono ?_; rintro e W5 ⟨rfl, hb⟩; have HW5 := hide hb; clear hb; obtain ⟨x0, x1⟩ := st_cells (box_below (unhide HY1) (unhide HW5)); obtain ⟨y0, y1⟩ := st_cells (box_below (unhide HY2) (unhide HW5)))
      | ((with_reducible refine wpList_store_state (by rfl) (.tmp 4) (.tmp 17) (by rfl) (N + 1 + 1) Sv.none 0 0 (by with_unfolding_all rfl) (by with_unfolding_all rfl) Sv.none 0 0 (box_below (unhide HX3) (unhide HW5)) ?_); intro W9 HX9 HE9; simp only [Act.put])
      | fail)
    refine bodyPost_ret (results_cell_tmp rfl _ _ (N + 1 + 1) 31 #[.slice Sv.none.sa 0 Sv.none.sc, .slice Sv.none.ba 0 Sv.none.bc] (0, 0) _ rfl (unhide HX9) stateUnd rfl stateInfo) rfl ?_
    have HB9 : Hid (Below N u W9) := by rw [unhide HE9]; exact belowRow ((unhide HBU).trans ((unhide HW5).mono (by rw [unhide HS3]; omega))) (by omega) _
    exact ⟨Sv.none, 0, 0, rfl, rfl, rfl, OwnT.none _ _, unhide HB9⟩
end Go.Proofs.Ytkcbljmjhlnjpaa
namespace Go.Proofs.Ytkcbljmjhlnjpaa.V

/-- the dots whose actor the other lacks -/
def fresh (a b : List (Nat × Nat)) : List (Nat × Nat) := b.filter fun d => cnt a d.1 == 0
theorem fresh_take (a : List (Nat × Nat)) {b : List (Nat × Nat)} {i : Nat} (h : i < b.length) : fresh a (b.take (i + 1)) = fresh a (b.take i) ++ (if cnt a b[i].1 = 0 then [b[i]] else []) := by
  unfold fresh
  rw [List.take_succ_eq_append_getElem h, List.filter_append]
  congr 1
  by_cases hc : cnt a b[i].1 = 0
  · simp [hc]
  · simp [hc]
theorem fresh_len (a b : List (Nat × Nat)) : (fresh a b).length ≤ b.length := List.length_filter_le _ _
/-- no actor twice -/
def Once (l : List (Nat × Nat)) : Prop := l.Pairwise fun x y => x.1 ≠ y.1
theorem once_all {a b : List (Nat × Nat)} (ha : Vec a) (hb : Vec b) : Once (a ++ fresh a b) := by
  refine List.pairwise_append.2 ⟨ha.up.imp (fun h => by omega), (hb.up.sublist List.filter_sublist).imp (fun h => by omega), fun x hx y hy he => ?_⟩
  have h1 := (List.mem_filter.1 hy).2
  have h2 := cnt_mem ha.up hx
  have h3 := (ha.pos x hx).1
  rw [he] at h2
  have h1' : cnt a y.1 = 0 := by simpa using h1
  omega
/-- the first ones sorted, each with its new count -/
structure Srt (mx : Nat → Nat) (A S : List (Nat × Nat)) : Prop where
  up : Up S
  len : S.length = A.length
  val : ∀ d ∈ S, d.2 = mx d.1
  fwd : ∀ d ∈ S, ∃ e ∈ A, e.1 = d.1
  bwd : ∀ e ∈ A, ∃ d ∈ S, d.1 = e.1
theorem Srt.nil (mx : Nat → Nat) : Srt mx [] [] := ⟨List.Pairwise.nil, rfl, fun _ h => (by cases h), fun _ h => (by cases h), fun _ h => (by cases h)⟩
theorem Srt.step {mx : Nat → Nat} {A S : List (Nat × Nat)} {d : Nat × Nat} {k m : Nat} (h : Srt mx A S) (hm : m = mx d.1) (hk : k ≤ S.length) (h1 : ∀ j (hj : j < S.length), j < k → S[j].1 < d.1) (h2 : ∀ j (hj : j < S.length), k ≤ j → d.1 < S[j].1) : Srt mx (A ++ [d]) (put S k (d.1, m)) := by
  subst hm
  refine ⟨?_, by rw [put_len hk, h.len, List.length_append]; rfl, fun x hx => ?_, fun x hx => ?_, fun e he => ?_⟩
  · have g1 : ∀ x ∈ S.take k, x.1 < d.1 := fun x hx => by
      obtain ⟨i, hi, rfl⟩ := List.getElem_of_mem hx
      rw [List.length_take] at hi
      rw [List.getElem_take]
      exact h1 i (by omega) (by omega)
    have g2 : ∀ x ∈ S.drop k, d.1 < x.1 := fun x hx => by
      obtain ⟨i, hi, rfl⟩ := List.getElem_of_mem hx
      rw [List.length_drop] at hi
      rw [List.getElem_drop]
      exact h2 (k + i) (by omega) (by omega)
    unfold put Up
    refine List.pairwise_append.2 ⟨h.up.sublist (List.take_sublist _ _), List.pairwise_cons.2 ⟨g2, h.up.sublist (List.drop_sublist _ _)⟩, fun x hx y hy => ?_⟩
    rcases List.mem_cons.1 hy with rfl | hy
    · exact g1 x hx
    · exact Nat.lt_trans (g1 x hx) (g2 y hy)
  · rcases mem_put.1 hx with rfl | hx
    · rfl
    · exact h.val x hx
  · rcases mem_put.1 hx with rfl | hx
    · exact ⟨d, List.mem_append.2 (.inr (List.mem_cons_self ..)), rfl⟩
    · obtain ⟨e, he, e1⟩ := h.fwd x hx
      exact ⟨e, List.mem_append.2 (.inl he), e1⟩
  · rcases List.mem_append.1 he with he | he
    · obtain ⟨x, hx, e1⟩ := h.bwd e he
      exact ⟨x, mem_put.2 (.inr hx), e1⟩
    · obtain rfl : e = d := by simpa using he
      exact ⟨(e.1, mx e.1), mem_put.2 (.inl rfl), rfl⟩
/-- what is sorted in lacks the next actor -/
theorem Srt.ne {mx : Nat → Nat} {l S : List (Nat × Nat)} {i : Nat} (h : Srt mx (l.take i) S) (ho : Once l) (hi : i < l.length) : ∀ j (hj : j < S.length), S[j].1 ≠ l[i].1 := fun j hj he => by
  obtain ⟨e, h1, h2⟩ := h.fwd _ (List.getElem_mem hj)
  obtain ⟨k, hk, rfl⟩ := List.getElem_of_mem h1
  rw [List.length_take] at hk
  rw [List.getElem_take] at h2
  have := List.pairwise_iff_getElem.1 ho k i (by omega) hi (by omega)
  omega
theorem Srt.done {a b S : List (Nat × Nat)} (ha : Vec a) (hb : Vec b) (h : Srt (fun k => max (cnt a k) (cnt b k)) (a ++ fresh a b) S) : S = mrg a b := by
  have hh : ∀ k, has S k ↔ has a k ∨ has b k := fun k => by
    constructor
    · rintro ⟨d, hd, rfl⟩
      obtain ⟨e, he, e1⟩ := h.fwd d hd
      rcases List.mem_append.1 he with he | he
      · exact .inl ⟨e, he, e1⟩
      · exact .inr ⟨e, (List.mem_filter.1 he).1, e1⟩
    · intro hk
      have h1 : ∃ e ∈ a ++ fresh a b, e.1 = k := by
        by_cases hc : cnt a k = 0
        · rcases hk with hk | ⟨e, he, e1⟩
          · exact absurd hc ((has_iff ha k).1 hk)
          · exact ⟨e, List.mem_append.2 (.inr (List.mem_filter.2 ⟨he, by rw [e1]; simp [hc]⟩)), e1⟩
        · obtain ⟨e, he, e1, _⟩ := cnt_pos hc
          exact ⟨e, List.mem_append.2 (.inl he), e1⟩
      obtain ⟨e, he, e1⟩ := h1
      obtain ⟨d, hd, e2⟩ := h.bwd e he
      exact ⟨d, hd, by omega⟩
  have hv : Vec S := ⟨h.up, fun d hd => by
    have h1 := h.val d hd
    have h2 := (hh d.1).1 ⟨d, hd, rfl⟩
    rw [has_iff ha, has_iff hb] at h2
    have := cnt_le ha.pos d.1
    have := cnt_le hb.pos d.1
    omega⟩
  refine ext hv (mrg_vec ha hb) fun k => ?_
  rw [cnt_mrg ha hb]
  by_cases hk : has S k
  · obtain ⟨d, hd, rfl⟩ := hk
    rw [cnt_mem h.up hd]
    exact h.val d hd
  · have h1 : cnt S k = 0 := Classical.byContradiction fun hc => hk ((has_iff hv k).2 hc)
    have h2 : ¬ has a k := fun hx => hk ((hh k).2 (.inl hx))
    have h3 : ¬ has b k := fun hx => hk ((hh k).2 (.inr hx))
    rw [has_iff ha] at h2
    rw [has_iff hb] at h3
    omega
/-- the next that is sorted in, one place nearer to the front -/
theorem put_swap {S R : List (Nat × Nat)} {q : Nat} {e : Nat × Nat} (h : q < S.length) : ((put S (q + 1) e ++ R).set q e).set (q + 1) S[q] = put S q e ++ R := by
  unfold put
  have h1 : (S.take q).length = q := by rw [List.length_take]; omega
  rw [List.take_succ_eq_append_getElem h, List.drop_eq_getElem_cons h, List.append_assoc, List.append_assoc, List.append_assoc, List.set_append_right _ _ (by omega), h1, Nat.sub_self]
  simp only [List.cons_append, List.nil_append, List.set_cons_zero]
  rw [List.set_append_right _ _ (by omega), h1, show q + 1 - q = 1 by omega]
  simp only [List.set_cons_succ, List.set_cons_zero]
theorem put_at {S R : List (Nat × Nat)} {q : Nat} {e : Nat × Nat} (h : q ≤ S.length) (h' : q < (put S q e ++ R).length) : (put S q e ++ R)[q] = e := by
  rw [List.getElem_append_left (by rw [put_len h]; omega)]
  refine List.getElem_of_eq (l' := S.take q ++ e :: S.drop q) rfl _ |>.trans ?_
  rw [List.getElem_append_right (by rw [List.length_take]; omega)]
  simp [Nat.min_eq_left h]
theorem put_ahead {S R : List (Nat × Nat)} {q : Nat} {e : Nat × Nat} (h : q < S.length) (h' : q < (put S (q + 1) e ++ R).length) : (put S (q + 1) e ++ R)[q] = S[q] := by
  rw [List.getElem_append_left (by rw [put_len (by omega)]; omega)]
  exact put_get S (q + 1) q e (by omega) (by omega)
theorem put_first {S R : List (Nat × Nat)} {x y : Nat × Nat} : (S ++ x :: R).set S.length y = put S S.length y ++ R := by
  unfold put
  rw [List.set_append_right _ _ (Nat.le_refl _), Nat.sub_self, List.set_cons_zero]
  simp
end Go.Proofs.Ytkcbljmjhlnjpaa.V
namespace Go.Proofs.Ytkcbljmjhlnjpaa
open Go.RowKit

set_option maxRecDepth 100000 in
set_option maxHeartbeats 4000000 in
theorem rValid (l : List (Nat × Nat)) (ao : Option Addr) (c : Nat) (u : World) (h : DAt u l ao) : Calls Try.prog 91 #[.slice ao l.length c] u fun e u' => e = .returned (.bool (V.okB l)) ∧ ∃ z, u' = u.drewN z := by
  have hl0 := h.len
  by_cases h64 : l.length ≤ 64
  · have HQ := hide h.lies
    have HF := hide h.fits
    have HL := hide h64
    clear h
    have HE : Hid (∀ i (hi : i < l.length), ¬ V.good l i hi → V.okB l = false) := fun i hi hg => V.not_ok_at hi hg
    have HT : Hid ((∀ i (hi : i < l.length), V.good l i hi) → V.okB l = true) := fun hg => V.okB_true.2 (V.ok_iff.2 ⟨unhide HL, hg⟩)
    generalize V.okB l = ok at *
    obtain ⟨n, hn⟩ : ∃ n, n = l.length := ⟨_, rfl⟩
    have HLN := hide hn
    rw [← hn] at hl0 h64 ⊢
    have h64i : (n : Int) ≤ 64 := by omega
    have h64j : ¬ (64 : Int) < (n : Int) := by omega
    clear hn hl0
    go_enter Try.func91, Try.ntmps91
    go_wp2
    go_loopw [3] (fun i wr => ∃ k : Nat, k ≤ n ∧ i = .int .i64 k ∧ Hid ((∃ z, wr = u.drewN z) ∧ ∀ j (hj : j < l.length), j < k → V.good l j hj)) (fun i _ => n - (intOf i).toNat)
    case atStart => exact ⟨0, Nat.zero_le _, rfl, ⟨0, rfl⟩, fun j _ hj => absurd hj (Nat.not_lt_zero _)⟩
    case round =>
      obtain ⟨k, hk, rfl, HI⟩ := hrel
      obtain ⟨z, hz⟩ := (unhide HI).1
      have HJ := hide (unhide HI).2
      clear HI
      subst hz
      by_cases hlt : k < n
      · have hki : (k : Int) < (n : Int) := by omega
        have hkl : k < l.length := by rw [← unhide HLN]; exact hlt
        obtain ⟨g, o, hao, c1, c2⟩ := (unhide HQ).dt hkl
        subst hao
        have hix := ixD g o n c k hlt
        have HG : Hid (V.good l k hkl ↔ 1 ≤ l[k].2 ∧ l[k].2 ≤ 1099511627776 ∧ (0 < k → l[k - 1].1 < l[k].1)) := Iff.rfl
        have HR : Hid (V.good l k hkl → ∀ j (hj : j < l.length), j < k + 1 → V.good l j hj) := fun hg j hj hjk => by
          rcases Nat.lt_succ_iff_lt_or_eq.1 hjk with h | rfl
          · exact unhide HJ j hj h
          · exact hg
        have HE1 := hide (unhide HE k hkl)
        generalize l[k] = q at *
        obtain ⟨qa, qc⟩ := q
        have c1 : u.cell? ⟨g, o + k * 2, none⟩ = some (.int .u32 (qa : Int)) := c1
        have c2 : u.cell? ⟨g, o + k * 2 + 1, none⟩ = some (.int .u64 (qc : Int)) := c2
        have HG2 : Hid (V.good l k hkl ↔ 1 ≤ qc ∧ qc ≤ 1099511627776 ∧ (0 < k → l[k - 1].1 < qa)) := HG
        clear HG HE HJ
        by_cases hc3 : qc < 1
        · have HB : Hid (ok = false) := unhide HE1 fun hg => by have := ((unhide HG2).1 hg).1; omega
          have d1 : decide ((qc : Int) < 1) = true := decide_eq_true (by omega)
          have d1' : (qc : Int) < 1 := by omega
          generalize o + k * 2 = oo at *
          go_wp2_with fail
          go_quiet (fail)
          go_wp2
          go_ret
          exact ⟨by rw [unhide HB]; rfl, z + nq, by simp [World.drewN_drewN]⟩
        · have d1 : decide ((qc : Int) < 1) = false := decide_eq_false (by omega)
          by_cases hc4 : 1099511627776 < qc
          · have HB : Hid (ok = false) := unhide HE1 fun hg => by have := ((unhide HG2).1 hg).2.1; omega
            have d2 : decide ((1099511627776 : Int) < (qc : Int)) = true := decide_eq_true (by omega)
            have d2' : (1099511627776 : Int) < (qc : Int) := by omega
            generalize o + k * 2 = oo at *
            clear hc3 hc4
            go_wp2_with fail
            go_quiet (fail)
            go_wp2
            go_ret
            exact ⟨by rw [unhide HB]; rfl, z + nq, by simp [World.drewN_drewN]⟩
          · have d2 : decide ((1099511627776 : Int) < (qc : Int)) = false := decide_eq_false (by omega)
            have HC1 : Hid (1 ≤ qc) := by show 1 ≤ qc; omega
            have HC2 : Hid (qc ≤ 1099511627776) := by show qc ≤ _; omega
            clear hc3 hc4
            by_cases hk0 : k = 0
            · have HK0 := hide hk0
              have HGk : Hid (V.good l k hkl) := (unhide HG2).2 ⟨unhide HC1, unhide HC2, fun h => by have := unhide HK0; omega⟩
              have hk2 : decide ((0 : Int) < (k : Int)) = false := decide_eq_false (by omega)
              have hk3 : decide (0 < k) = false := decide_eq_false (by omega)
              generalize o + k * 2 = oo at *
              clear hk0
              go_wp2_with fail
              go_quiet (fail)
              go_wp2
              go_roundw
              case rel => exact ⟨k + 1, by omega, by go_num, ⟨z + nq, rfl⟩, unhide HR (unhide HGk)⟩
              case measure => simp [intOf]; omega
            · obtain ⟨j, hj⟩ : ∃ j, k = j + 1 := ⟨k - 1, by omega⟩
              have hjl : j < l.length := by omega
              obtain ⟨g', o', hao', e1, e2⟩ := (unhide HQ).dt hjl
              cases hao'
              have hix2 := ixD g o n c j (by omega)
              have hw1 : IntKind.i64.wrap ((k : Int) - 1) = (j : Int) := by rw [IntKind.wrap_i64]; omega
              have hk1 : (0 : Int) < (k : Int) := by omega
              have hk2 : decide ((0 : Int) < (k : Int)) = true := decide_eq_true hk1
              have hk3 : decide (0 < k) = true := decide_eq_true (by omega)
              have HG3 : Hid (V.good l k hkl ↔ 1 ≤ qc ∧ qc ≤ 1099511627776 ∧ l[j].1 < qa) := by
                subst hj
                refine (unhide HG2).trans ⟨fun h => ⟨h.1, h.2.1, h.2.2 (Nat.succ_pos _)⟩, fun h => ⟨h.1, h.2.1, fun _ => h.2.2⟩⟩
              generalize l[j] = p at *
              obtain ⟨pa, pc⟩ := p
              have e1 : u.cell? ⟨g, o + j * 2, none⟩ = some (.int .u32 (pa : Int)) := e1
              have HJ := hide hj
              clear e2 hj
              generalize o + j * 2 = oj at *
              generalize o + k * 2 = oo at *
              by_cases hpa : pa < qa
              · have HGk : Hid (V.good l k hkl) := (unhide HG3).2 ⟨unhide HC1, unhide HC2, hpa⟩
                have hp2 : decide ((qa : Int) ≤ (pa : Int)) = false := decide_eq_false (by omega)
                have hp3 : decide (qa ≤ pa) = false := decide_eq_false (by omega)
                go_wp2_with fail
                go_quiet (fail)
                go_wp2
                go_roundw
                case rel => exact ⟨k + 1, by omega, by go_num, ⟨z + nq, rfl⟩, unhide HR (unhide HGk)⟩
                case measure => simp [intOf]; omega
              · have HB : Hid (ok = false) := unhide HE1 fun hg => hpa ((unhide HG3).1 hg).2.2
                have hp1 : (qa : Int) ≤ (pa : Int) := by omega
                have hp2 : decide ((qa : Int) ≤ (pa : Int)) = true := decide_eq_true hp1
                have hp3 : decide (qa ≤ pa) = true := decide_eq_true (by omega)
                go_wp2_with fail
                go_quiet (fail)
                go_wp2
                go_ret
                exact ⟨by rw [unhide HB]; rfl, z + nq, by simp [World.drewN_drewN]⟩
      · obtain rfl : k = n := by omega
        have hki : ¬ (k : Int) < (k : Int) := by omega
        have HB := hide (unhide HT fun i hi => unhide HJ i hi (by rw [unhide HLN]; exact hi))
        go_wp2
        go_ret
        exact ⟨by rw [unhide HB]; rfl, z, rfl⟩
  · have e : V.okB l = false := V.okB_false.2 fun ho => h64 ho.len
    rw [e]
    have hi : ¬ (l.length : Int) ≤ 64 := by omega
    have hi2 : (64 : Int) < (l.length : Int) := by omega
    go_enter Try.func91, Try.ntmps91
    go_wp2
    go_ret
    exact ⟨rfl, 0, rfl⟩
set_option maxRecDepth 100000 in
set_option maxHeartbeats 2000000 in
theorem rCount (l : List (Nat × Nat)) (ao : Option Addr) (c x : Nat) (u : World) (h : DAt u l ao) : Calls Try.prog 92 #[.slice ao l.length c, .int .u32 (x : Int)] u fun e u' => e = .returned (.int .u64 (V.cntV l x : Nat)) ∧ ∃ z, u' = u.drewN z := by
  have HV := hide (rValid l ao c u h)
  have HQ := hide h.lies
  cases hok : V.okB l with
  | false =>
    rw [show V.cntV l x = 0 by unfold V.cntV; rw [hok]; rfl]
    rw [hok] at HV
    go_enter Try.func92, Try.ntmps92
    go_wp2_with (first | (go_at_call 91; refine (unhide HV).mono ?_; rintro e w1 ⟨rfl, z, rfl⟩) | fail)
    go_ret
    exact ⟨rfl, z, rfl⟩
  | true =>
    have hl64 : l.length ≤ 64 := (V.okB_true.1 hok).len
    rw [show V.cntV l x = V.cnt l x by unfold V.cntV; rw [hok]; rfl]
    rw [hok] at HV
    have HA : Hid (∀ i (hi : i < l.length), (∀ j (hj : j < l.length), j < i → l[j].1 ≠ x) → l[i].1 = x → V.cnt l x = l[i].2) := fun i hi hn he => by
      rw [← he]; exact V.cnt_at hi fun j hj hji => by rw [he]; exact hn j hj hji
    have HZ : Hid ((∀ j (hj : j < l.length), l[j].1 ≠ x) → V.cnt l x = 0) := fun hn => V.cnt_none hn
    generalize V.cnt l x = r at *
    obtain ⟨n, hn⟩ : ∃ n, n = l.length := ⟨_, rfl⟩
    have HLN := hide hn
    rw [← hn] at hl64 HV ⊢
    have h64i : (n : Int) ≤ 64 := by omega
    clear hn h hok
    go_enter Try.func92, Try.ntmps92
    go_wp2_with (first | (go_at_call 91; refine (unhide HV).mono ?_; rintro e w1 ⟨rfl, z0, rfl⟩) | fail)
    go_loop [5] (fun i => ∃ k : Nat, k ≤ n ∧ i = .int .i64 k ∧ Hid (∀ j (hj : j < l.length), j < k → l[j].1 ≠ x)) (fun i => n - (intOf i).toNat)
    case atStart => exact ⟨0, Nat.zero_le _, rfl, fun j _ hj => absurd hj (Nat.not_lt_zero _)⟩
    case round =>
      obtain ⟨k, hk, rfl, HI⟩ := hrel
      by_cases hlt : k < n
      · have hki : (k : Int) < (n : Int) := by omega
        have hkl : k < l.length := by rw [← unhide HLN]; exact hlt
        obtain ⟨g, o, hao, c1, c2⟩ := (unhide HQ).dt hkl
        subst hao
        have hix := ixD g o n c k hlt
        have HR : Hid (l[k].1 ≠ x → ∀ j (hj : j < l.length), j < k + 1 → l[j].1 ≠ x) := fun hg j hj hjk => by
          rcases Nat.lt_succ_iff_lt_or_eq.1 hjk with h | rfl
          · exact unhide HI j hj h
          · exact hg
        have HA1 := hide (unhide HA k hkl (unhide HI))
        generalize l[k] = q at *
        obtain ⟨qa, qc⟩ := q
        have c1 : u.cell? ⟨g, o + k * 2, none⟩ = some (.int .u32 (qa : Int)) := c1
        have c2 : u.cell? ⟨g, o + k * 2 + 1, none⟩ = some (.int .u64 (qc : Int)) := c2
        clear HI HA
        generalize o + k * 2 = oo at *
        by_cases hax : qa = x
        · have HRV := hide (unhide HA1 hax)
          subst hax
          go_wp2
          go_ret
          exact ⟨by rw [unhide HRV]; rfl, z0, rfl⟩
        · have hxi : ¬ (qa : Int) = (x : Int) := by omega
          go_wp2
          go_round
          case rel => exact ⟨k + 1, by omega, by go_num, unhide HR hax⟩
          case measure => simp [intOf]; omega
      · obtain rfl : k = n := by omega
        have hki : ¬ (k : Int) < (k : Int) := by omega
        have HRV := hide (unhide HZ fun j hj => unhide HI j hj (by rw [unhide HLN]; exact hj))
        go_wp2
        go_ret
        exact ⟨by rw [unhide HRV]; rfl, z0, rfl⟩
end Go.Proofs.Ytkcbljmjhlnjpaa
