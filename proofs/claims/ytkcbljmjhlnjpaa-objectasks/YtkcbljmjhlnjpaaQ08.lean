/- States: the siblings of the join. -/
import Derived.Test.YtkcbljmjhlnjpaaQ07
import Derived.WalkMore
namespace Go.Proofs.Ytkcbljmjhlnjpaa
open Go.RowKit Go.Lib
theorem entUn : ∀ args (w : World), (callFunc 131 args).run Try.prog w = .ok (.enter 131 args) w := by
  intro args w
  go_simp

theorem ixS0 (g o n c : Nat) (hi : 0 < n) (W : World) : (Instr.indexAt 29 (.slice (some ⟨g, o, none⟩) n c) (.int .i64 0)).run Try.prog W = .ok (.pointer (some ⟨g, o, none⟩)) W := by
  have := ixS g o n c 0 hi W
  simpa using this
theorem Dw.head {w : World} {q : Sb} {l : List Sb} {ao : Option Addr} {c : Nat} (h : Dw w (q :: l) ao c) : ∃ g o, ao = some ⟨g, o, none⟩ ∧ w.cell? ⟨g, o, none⟩ = some (.int .u32 (q.a : Int)) ∧ w.cell? ⟨g, o + 1, none⟩ = some (.int .u64 (q.c : Int)) ∧ w.cell? ⟨g, o + 2, none⟩ = some (.bool q.gone) ∧ w.cell? ⟨g, o + 3, none⟩ = some (.string q.val) := by
  obtain ⟨g, o, h1, h2, h3, h4, h5⟩ := h.lies.sb (i := 0) (by simp)
  exact ⟨g, o, h1, by simpa using h2, by simpa using h3, by simpa using h4, by simpa using h5⟩
/-- the first alone -/
theorem headS (w : World) (q : Sb) (l : List Sb) (g o n c : Nat) (h : Dw w (q :: l) (some ⟨g, o, none⟩) c) : Dw w [q] (some ⟨g, o, none⟩) c ∧ ∀ W : World, (Instr.slice 29 (.slice (some ⟨g, o, none⟩) n c) none (some (.int .i64 1)) none).run Try.prog W = .ok (.slice (some ⟨g, o, none⟩) 1 c) W := by
  have hc := h.cap
  rw [List.length_cons] at hc
  have he : Try.prog.elem 29 = 69 := by kernel_rfl
  refine ⟨⟨Lies.pre (ys := flatS l) (by rw [← flatS_app]; exact h.lies), by simp; omega, fun e => by cases e⟩, fun W => ?_⟩
  rw [run_slice_h W 29 _ _ _ (by rw [he]; exact undS) .i64 1 (by omega) (by omega), he, sizeN (n := 4) (by kernel_rfl)]
  simp only [Result.andThen_ok, sliced, Option.map_some]
  have h0 : (Addr.mk g o none).add 0 = ⟨g, o, none⟩ := by rw [Addr.add_mid]; rfl
  simp [h0]
set_option maxRecDepth 100000 in
set_option maxHeartbeats 8000000 in
theorem dJoined (a b : St) (v w : Sv) (u : World) (ha : SAt u a v) (hb : SAt u b w) (oa : SOk a) (ob : SOk b) : Calls Try.prog 89 #[v.v a.seen.length a.sibs.length, w.v b.seen.length b.sibs.length] u fun e u' => ∃ xo n c, e = .returned (.slice xo n c) ∧ n = (jnS a b).sibs.length ∧ OwnS u' u.heap.size (jnS a b).sibs xo c ∧ Below u.heap.size u u' := by
  have hmix : Try.prog.follows .mixedOrders = true := by kernel_rfl
  obtain ⟨N, hN⟩ : ∃ N, N = u.heap.size := ⟨_, rfl⟩
  have HN := hide hN
  have HA := hide ha
  have HB := hide hb
  rw [← hN]
  clear hN ha hb
  obtain ⟨n1, hn1⟩ : ∃ n, n = a.seen.length := ⟨_, rfl⟩
  obtain ⟨m1, hm1⟩ : ∃ n, n = a.sibs.length := ⟨_, rfl⟩
  obtain ⟨n2, hn2⟩ : ∃ n, n = b.seen.length := ⟨_, rfl⟩
  obtain ⟨m2, hm2⟩ : ∃ n, n = b.sibs.length := ⟨_, rfl⟩
  have E1 := hide hn1
  have E2 := hide hm1
  have E3 := hide hn2
  have E4 := hide hm2
  have HLM : Hid (a.sibs.length + b.sibs.length ≤ 128) := hide (by have := oa.len; have := ob.len; omega)
  have hm1i : (m1 : Int) ≤ 64 := by have := oa.len; omega
  have hm2i : (m2 : Int) ≤ 64 := by have := ob.len; omega
  have HOA := hide oa.ok
  have HOB := hide ob.ok
  have HJ : Hid ((jnS a b).sibs = jn a.seen b.seen a.sibs b.sibs) := rfl
  rw [← hn1, ← hm1, ← hn2, ← hm2]
  clear hn1 hm1 hn2 hm2 oa ob
  generalize (jnS a b).sibs = J at *
  go_enter Try.func89, Try.ntmps89
  go_wp2_with (first
    | ((with_reducible refine wpList_box_state (by rfl) (.tmp 0) (by rfl) (some 2) (by rfl) N (unhide HN) v n1 m1 (by with_unfolding_all rfl) ?_); intro W1 HX1 HB1 HS1; simp only [Act.put, List.setIfInBounds_toArray, List.set_cons_zero, List.set_cons_succ])
    | ((with_reducible refine wpList_box_state (by rfl) (.tmp 1) (by rfl) (some 3) (by rfl) (N + 1) (unhide HS1).symm w n2 m2 (by with_unfolding_all rfl) ?_); intro W2 HX2 HB2 HS2; simp only [Act.put, List.setIfInBounds_toArray, List.set_cons_zero, List.set_cons_succ]; have HY1 : Hid (W2.heap[N]? = some (stRow v n1 m1)) := ((unhide HB2).block N (Nat.lt_succ_self _)).trans (unhide HX1); have HBU : Hid (Below N u W2) := (unhide HB1).trans ((unhide HB2).mono (Nat.le_succ _)); have HA2 := hide ((unhide HA).below (by rw [← unhide HN]; exact unhide HBU)); have HB3 := hide ((unhide HB).below (by rw [← unhide HN]; exact unhide HBU)); obtain ⟨x0, x1⟩ := st_cells (unhide HY1); obtain ⟨y0, y1⟩ := st_cells (unhide HX2))
    | fail)
  go_step3
  go_wp2
  go_quiet (fail)
  go_wp2
  go_step3
  go_wp2
  have HW0 : Hid (Below W2.heap.size W2 (W2.drewN nq)) := belowDrewN (Below.refl _ _) _
  generalize W2.drewN nq = W3 at HW0 ⊢
  have HNB : Hid (N ≤ W2.heap.size) := by rw [unhide HS2]; show N ≤ N + 1 + 1; omega
  have HDA : Hid (Dw W2 a.sibs v.ba v.bc) := (unhide HA2).sibs.dw
  have HDB : Hid (Dw W2 b.sibs w.ba w.bc) := (unhide HB3).sibs.dw
  have HCA : Hid (∀ W : World, Below W2.heap.size W2 W → W.cell? ⟨N, 0, none⟩ = some (.slice v.sa n1 v.sc)) := fun W hW => (st_cells (box_below (unhide HY1) hW)).1
  have HCB : Hid (∀ W : World, Below W2.heap.size W2 W → W.cell? ⟨N + 1, 0, none⟩ = some (.slice w.sa n2 w.sc)) := fun W hW => (st_cells (box_below (unhide HX2) hW)).1
  have HUA : Hid (∀ (acc l : List Sb) (k1 k2 : Nat), k1 = acc.length → k2 = l.length → ∀ (xo lo : Option Addr) (c1 c2 : Nat) (W : World), Dw W2 l lo c2 → Below W2.heap.size W2 W → OwnS W W2.heap.size acc xo c1 → acc.length + l.length ≤ 1000 → Calls Try.prog 131 #[.slice xo k1 c1, .slice lo k2 c2, .slice v.sa n1 v.sc] W fun e W' => ∃ r, e = .returned r ∧ ∃ xo' n' c', r = .slice xo' n' c' ∧ n' = (acc ++ uns a.seen l).length ∧ OwnS W' W2.heap.size (acc ++ uns a.seen l) xo' c' ∧ Below W2.heap.size W2 W') := fun acc l k1 k2 e1 e2 xo lo c1 c2 W hl hb ho hlen => (dUnseen acc l a.seen k1 k2 n1 e1 e2 (unhide E1) xo lo v.sa c1 c2 v.sc W2 W (unhide HOA) (unhide HA2).seen hl hb ho hlen).mono fun e W' h => by
    obtain ⟨x, n, c, h1, h2⟩ := h
    exact ⟨_, h1, x, n, c, rfl, h2⟩
  have HUB : Hid (∀ (acc l : List Sb) (k1 k2 : Nat), k1 = acc.length → k2 = l.length → ∀ (xo lo : Option Addr) (c1 c2 : Nat) (W : World), Dw W2 l lo c2 → Below W2.heap.size W2 W → OwnS W W2.heap.size acc xo c1 → acc.length + l.length ≤ 1000 → Calls Try.prog 131 #[.slice xo k1 c1, .slice lo k2 c2, .slice w.sa n2 w.sc] W fun e W' => ∃ r, e = .returned r ∧ ∃ xo' n' c', r = .slice xo' n' c' ∧ n' = (acc ++ uns b.seen l).length ∧ OwnS W' W2.heap.size (acc ++ uns b.seen l) xo' c' ∧ Below W2.heap.size W2 W') := fun acc l k1 k2 e1 e2 xo lo c1 c2 W hl hb ho hlen => (dUnseen acc l b.seen k1 k2 n2 e1 e2 (unhide E3) xo lo w.sa c1 c2 w.sc W2 W (unhide HOB) (unhide HB3).seen hl hb ho hlen).mono fun e W' h => by
    obtain ⟨x, n, c, h1, h2⟩ := h
    exact ⟨_, h1, x, n, c, rfl, h2⟩
  clear x0 x1 y0 y1 HA HB HX1 HX2 HY1 HB1 HB2 HS1 HA2 HB3 HOA HOB
  go_loopw [5, 6, 7] (fun s5 s6 s7 wr => ∃ (acc xs ys : List Sb) (xo xa xb : Option Addr) (n3 k1 k2 c3 c1 c2 : Nat), s5 = .slice xo n3 c3 ∧ s6 = .slice xa k1 c1 ∧ s7 = .slice xb k2 c2 ∧ Hid (n3 = acc.length) ∧ Hid (k1 = xs.length) ∧ Hid (k2 = ys.length) ∧ Hid (Dw W2 xs xa c1) ∧ Hid (Dw W2 ys xb c2) ∧ Hid (OwnS wr W2.heap.size acc xo c3 ∧ Below W2.heap.size W2 wr) ∧ Hid (J = acc ++ jn a.seen b.seen xs ys) ∧ Hid (acc.length + xs.length + ys.length ≤ 128)) (fun _ s6 s7 _ => slLen s6 + slLen s7)
  case atStart => exact ⟨[], a.sibs, b.sibs, none, v.ba, w.ba, 0, m1, m2, 0, v.bc, w.bc, rfl, rfl, rfl, rfl, E2, E4, HDA, HDB, ⟨OwnS.nil _ _, unhide HW0⟩, HJ, hide (by have := unhide HLM; simp only [List.length_nil]; omega)⟩
  case round =>
    obtain ⟨acc, xs, ys, xo, xa, xb, n3, k1, k2, c3, c1, c2, rfl, rfl, rfl, HN3, HK1, HK2, HXS, HYS, HI, HM, HL⟩ := hrel
    have hk1i : (k1 : Int) ≤ 128 := by have := unhide HL; have := unhide HK1; omega
    have hk2i : (k2 : Int) ≤ 128 := by have := unhide HL; have := unhide HK2; omega
    have ca0 := unhide HCA _ (unhide HI).2
    have cb0 := unhide HCB _ (unhide HI).2
    by_cases hz1 : k1 = 0
    · have hz1i : (k1 : Int) = 0 := by omega
      have HJE : Hid (J = acc ++ uns a.seen ys) := by
        rw [unhide HM, List.eq_nil_of_length_eq_zero (show xs.length = 0 by rw [← unhide HK1]; exact hz1), jn]; exact rfl
      have HU := hide (unhide HUA acc ys n3 k2 (unhide HN3) (unhide HK2) xo xb c3 c2 wr (unhide HYS) (unhide HI).2 (unhide HI).1 (by have := unhide HL; omega))
      go_wp2_with (first
        | (go_at_call 131; refine (unhide HU).mono ?_; rintro e W4 ⟨r, rfl, x4, n4, c4, rfl, h1, h2, h3⟩; have HR := hide (And.intro h1 (And.intro h2 h3)); clear h1 h2 h3)
        | fail)
      rw [Exit.noGoto_ret]
      go_ret
      exact ⟨x4, n4, c4, rfl, by rw [unhide HJE]; exact (unhide HR).1, by rw [unhide HJE]; exact own_down (unhide HR).2.1 (unhide HNB), (unhide HBU).trans ((unhide HR).2.2.mono (unhide HNB))⟩
    · have hz1i : ¬ (k1 : Int) = 0 := by omega
      have hz1b : ((k1 : Int) == 0) = false := by simpa using hz1
      by_cases hz2 : k2 = 0
      · have hz2i : (k2 : Int) = 0 := by omega
        have HJE : Hid (J = acc ++ uns b.seen xs) := by
          rw [unhide HM, List.eq_nil_of_length_eq_zero (show ys.length = 0 by rw [← unhide HK2]; exact hz2)]
          cases xs with
          | nil => exact absurd (unhide HK1) (by simpa using hz1)
          | cons p al => rw [jn]; exact rfl
        have HU := hide (unhide HUB acc xs n3 k1 (unhide HN3) (unhide HK1) xo xa c3 c1 wr (unhide HXS) (unhide HI).2 (unhide HI).1 (by have := unhide HL; omega))
        go_wp2_with (first
          | (go_at_call 131; refine (unhide HU).mono ?_; rintro e W4 ⟨r, rfl, x4, n4, c4, rfl, h1, h2, h3⟩; have HR := hide (And.intro h1 (And.intro h2 h3)); clear h1 h2 h3)
          | fail)
        rw [Exit.noGoto_ret]
        go_ret
        exact ⟨x4, n4, c4, rfl, by rw [unhide HJE]; exact (unhide HR).1, by rw [unhide HJE]; exact own_down (unhide HR).2.1 (unhide HNB), (unhide HBU).trans ((unhide HR).2.2.mono (unhide HNB))⟩
      · have hz2i : ¬ (k2 : Int) = 0 := by omega
        have hz2b : ((k2 : Int) == 0) = false := by simpa using hz2
        cases xs with
        | nil => exact absurd (unhide HK1) (by simpa using hz1)
        | cons p al =>
          cases ys with
          | nil => exact absurd (unhide HK2) (by simpa using hz2)
          | cons q bl =>
            obtain ⟨g, o, hx1, e1, e2, e3, e4⟩ := (unhide HXS).head
            obtain ⟨g2, o2, hx2, f1, f2, f3, f4⟩ := (unhide HYS).head
            subst hx1 hx2
            have hi1 := ixS0 g o k1 c1 (by omega)
            have hi2 := ixS0 g2 o2 k2 c2 (by omega)
            obtain ⟨t1, d1, hT1, hr1⟩ := tailS W2 p al g o c1 (unhide HXS)
            obtain ⟨t2, d2, hT2, hr2⟩ := tailS W2 q bl g2 o2 c2 (unhide HYS)
            obtain ⟨hP1, hh1⟩ := headS W2 p al g o k1 c1 (unhide HXS)
            obtain ⟨hP2, hh2⟩ := headS W2 q bl g2 o2 k2 c2 (unhide HYS)
            have HT1 := hide hT1
            have HT2 := hide hT2
            have HP1 := hide hP1
            have HP2 := hide hP2
            obtain ⟨j1, hj1⟩ : ∃ j, j = al.length := ⟨_, rfl⟩
            obtain ⟨j2, hj2⟩ : ∃ j, j = bl.length := ⟨_, rfl⟩
            have HJ1 : Hid (k1 = j1 + 1 ∧ j1 = al.length) := ⟨by rw [hj1]; exact unhide HK1, hj1⟩
            have HJ2 : Hid (k2 = j2 + 1 ∧ j2 = bl.length) := ⟨by rw [hj2]; exact unhide HK2, hj2⟩
            rw [← hj1, ← (unhide HJ1).1] at hr1
            rw [← hj2, ← (unhide HJ2).1] at hr2
            clear hj1 hj2 hT1 hT2 hP1 hP2
            have hC1 : ∀ W : World, Below W2.heap.size W2 W → W.cell? ⟨g, o, none⟩ = some (.int .u32 (p.a : Int)) ∧ W.cell? ⟨g, o + 1, none⟩ = some (.int .u64 (p.c : Int)) ∧ W.cell? ⟨g, o + 2, none⟩ = some (.bool p.gone) ∧ W.cell? ⟨g, o + 3, none⟩ = some (.string p.val) := fun W hW => ⟨cell_keep rfl hW e1, cell_keep rfl hW e2, cell_keep rfl hW e3, cell_keep rfl hW e4⟩
            have hC2 : ∀ W : World, Below W2.heap.size W2 W → W.cell? ⟨g2, o2, none⟩ = some (.int .u32 (q.a : Int)) ∧ W.cell? ⟨g2, o2 + 1, none⟩ = some (.int .u64 (q.c : Int)) ∧ W.cell? ⟨g2, o2 + 2, none⟩ = some (.bool q.gone) ∧ W.cell? ⟨g2, o2 + 3, none⟩ = some (.string q.val) := fun W hW => ⟨cell_keep rfl hW f1, cell_keep rfl hW f2, cell_keep rfl hW f3, cell_keep rfl hW f4⟩
            clear e1 e2 e3 e4 f1 f2 f3 f4 ca0 cb0
            obtain ⟨a1, a2, a3, a4⟩ := hC1 _ (unhide HI).2
            obtain ⟨b1, b2, b3, b4⟩ := hC2 _ (unhide HI).2
            have HLL : Hid (acc.length + (al.length + 1) + (bl.length + 1) ≤ 128) := unhide HL
            by_cases hpq : p.dot = q.dot
            · have HMS : Hid (J = (acc ++ [less p q]) ++ jn a.seen b.seen al bl) := by
                rw [unhide HM, jn, if_pos hpq, List.append_assoc]; exact rfl
              have heq : ∀ W : World, (binOp .eql 53 (.agg #[.int .u32 (p.a : Int), .int .u64 (p.c : Int)]) (.agg #[.int .u32 (q.a : Int), .int .u64 (q.c : Int)])).run Try.prog W = .ok (.bool true) W := fun W => by
                rw [eqlD, beq_nat, beq_nat, decide_eq_true (show p.a = q.a from congrArg Prod.fst hpq), decide_eq_true (show p.c = q.c from congrArg Prod.snd hpq)]; rfl
              have HCL := hide (fun (W : World) => asV (dLesser p q W))
              clear hpq
              go_wp2_with fail
              go_quiet (fail)
              have HBX : Hid (Below W2.heap.size W2 (wr.drewN nq)) := belowDrewN (unhide HI).2 _
              have HOX : Hid (OwnS (wr.drewN nq) W2.heap.size acc xo c3) := (unhide HI).1
              generalize wr.drewN nq = X at HBX HOX ⊢
              clear a1 a2 a3 a4 b1 b2 b3 b4 heq
              go_wp2_with fail
              refine wp_region_last (fun W => Below W2.heap.size W2 W) 10 hmix (belowDrew (unhide HBX)) fun hS => ?_
              have HO0 : Hid (OwnS X.drew W2.heap.size acc xo c3) := unhide HOX
              generalize X.drew = Z0 at hS HO0 ⊢
              refine wpAnyL_take 0 48 (.slice xo n3 c3) [] rfl rfl (by kernel_rfl) (by kernel_rfl) (by kernel_rfl) (by kernel_rfl) (by kernel_rfl) (fun _ _ _ h => h) (by rfl) (fun _ _ => by go_simp) hS ?_
              simp only [Act.put, List.setIfInBounds_toArray, List.set_cons_zero, List.set_cons_succ]
              refine wpAnyL_take 1 49 (.slice (some ⟨g, o, none⟩) k1 c1) [] rfl rfl (by kernel_rfl) (by kernel_rfl) (by kernel_rfl) (by kernel_rfl) (by kernel_rfl) (fun _ _ _ h => h) (by rfl) (fun _ _ => by go_simp) hS ?_
              simp only [Act.put, List.setIfInBounds_toArray, List.set_cons_zero, List.set_cons_succ]
              refine wpAnyL_take 2 50 (.pointer (some ⟨g, o, none⟩)) [] rfl rfl (by kernel_rfl) (by kernel_rfl) (by kernel_rfl) (by kernel_rfl) (by kernel_rfl) (fun _ _ _ h => h) (by rfl) (fun _ _ => by go_simp) hS ?_
              simp only [Act.put, List.setIfInBounds_toArray, List.set_cons_zero, List.set_cons_succ]
              refine wpAnyL_take 3 51 (p.v) [] rfl rfl (by kernel_rfl) (by kernel_rfl) (by kernel_rfl) (by kernel_rfl) (by kernel_rfl) (fun _ _ _ h => h) (by rfl) (fun W hW => by obtain ⟨e1, e2, e3, e4⟩ := hC1 W hW; unfold Sb.v; go_simp) hS ?_
              simp only [Act.put, List.setIfInBounds_toArray, List.set_cons_zero, List.set_cons_succ]
              refine wpAnyL_take 4 52 (.slice (some ⟨g2, o2, none⟩) k2 c2) [] rfl rfl (by kernel_rfl) (by kernel_rfl) (by kernel_rfl) (by kernel_rfl) (by kernel_rfl) (fun _ _ _ h => h) (by rfl) (fun _ _ => by go_simp) hS ?_
              simp only [Act.put, List.setIfInBounds_toArray, List.set_cons_zero, List.set_cons_succ]
              refine wpAnyL_take 5 53 (.pointer (some ⟨g2, o2, none⟩)) [] rfl rfl (by kernel_rfl) (by kernel_rfl) (by kernel_rfl) (by kernel_rfl) (by kernel_rfl) (fun _ _ _ h => h) (by rfl) (fun _ _ => by go_simp) hS ?_
              simp only [Act.put, List.setIfInBounds_toArray, List.set_cons_zero, List.set_cons_succ]
              refine wpAnyL_take 6 54 (q.v) [] rfl rfl (by kernel_rfl) (by kernel_rfl) (by kernel_rfl) (by kernel_rfl) (by kernel_rfl) (fun _ _ _ h => h) (by rfl) (fun W hW => by obtain ⟨e1, e2, e3, e4⟩ := hC2 W hW; unfold Sb.v; go_simp) hS ?_
              simp only [Act.put, List.setIfInBounds_toArray, List.set_cons_zero, List.set_cons_succ]
              refine wpAnyL_one (i := 7) (by kernel_rfl) rfl (by rfl) fun K hK => ?_
              refine wp_call_fn 132 _ _ (by rfl) #[p.v, q.v] (by with_unfolding_all rfl) entLs (some 55) (by rfl) _ (unhide HCL _) ?_
              rintro _ X5 ⟨rfl, hbe⟩
              have HB5 : Hid (Below W2.heap.size W2 X5) := hS.trans (hbe.mono hS.size)
              have HO5 := hide (OwnS.below (unhide HO0) hbe)
              clear hbe
              refine hK _ _ (fun _ => unhide HB5) ?_
              clear hK K
              simp only [Act.put, List.setIfInBounds_toArray, List.set_cons_zero, List.set_cons_succ]
              refine wpAnyL_one (i := 8) (by kernel_rfl) rfl (by rfl) fun K hK => ?_
              refine wp_buildTo (by rfl) _ _ (by simp only [List.map_toArray, List.map_cons, List.map_nil]; exact bsS X5 (less p q)) (some 56) (by rfl) ?_
              have hbe : Below X5.heap.size X5 (X5.alloc (.cells #[.int .u32 ((less p q).a : Int), .int .u64 ((less p q).c : Int), .bool (less p q).gone, .string (less p q).val] 69)) := (Below.refl _ _).alloc (Nat.le_refl _) _
              have HB6 := hide ((unhide HB5).trans (hbe.mono (unhide HB5).size))
              have HD6 := hide (Dw.one X5 (less p q) 69)
              have HO6 := hide (OwnS.below (unhide HO5) hbe)
              generalize X5.alloc (.cells #[.int .u32 ((less p q).a : Int), .int .u64 ((less p q).c : Int), .bool (less p q).gone, .string (less p q).val] 69) = X6 at HB6 HD6 HO6 hbe ⊢
              clear hbe
              generalize X5.heap.size = B6 at HD6 ⊢
              refine hK _ _ (fun _ => unhide HB6) ?_
              clear hK K
              simp only [Act.put, List.setIfInBounds_toArray, List.set_cons_zero, List.set_cons_succ]
              refine wpAnyL_one (i := 9) (by kernel_rfl) rfl (by rfl) fun K hK => ?_
              refine wp_putS (.tmp 48) (.tmp 56) (by rfl) (some 57) (by rfl) W2.heap.size acc [less p q] n3 1 (unhide HN3) rfl xo (some ⟨B6, 0, none⟩) c3 1 (by rfl) (by rfl) (unhide HO6) (unhide HD6) (by have := unhide HLL; simp only [List.length_cons, List.length_nil]; omega) (unhide HB6).size ?_
              intro x7 n7 c7 X7 HN7 HO7 _ HBE7 _
              have HB7 : Hid (Below W2.heap.size W2 X7) := (unhide HB6).trans (unhide HBE7)
              refine hK _ _ (fun _ => unhide HB7) ?_
              clear hK K
              simp only [Act.put, List.setIfInBounds_toArray, List.set_cons_zero, List.set_cons_succ]
              refine wpAnyL_one (i := 10) (by kernel_rfl) rfl (by rfl) fun K hK => ?_
              refine wp_val (.slice x7 n7 c7) (by go_simp) (some 5) (by rfl) ?_
              refine hK _ _ (fun _ => unhide HB7) ?_
              clear hK K
              simp only [Act.put, List.setIfInBounds_toArray, List.set_cons_zero, List.set_cons_succ]
              refine wpAnyL_done (by kernel_rfl) ?_ _
              go_wp2_with fail
              go_quiet (fail)
              have HB8 : Hid (Below W2.heap.size W2 (X7.drewN nq)) := belowDrewN (unhide HB7) _
              have HO8 : Hid (OwnS (X7.drewN nq) W2.heap.size (acc ++ [less p q]) x7 c7) := unhide HO7
              generalize X7.drewN nq = X8 at HB8 HO8 ⊢
              go_wp2
              go_roundw
              case rel => exact ⟨acc ++ [less p q], al, bl, x7, t1, t2, n7, j1, j2, c7, d1, d2, rfl, rfl, rfl, HN7, (unhide HJ1).2, (unhide HJ2).2, HT1, HT2, ⟨unhide HO8, unhide HB8⟩, HMS, hide (by simp only [List.length_append, List.length_cons, List.length_nil]; have := unhide HLL; omega)⟩
              case measure => simp [slLen]; have := (unhide HJ1).1; have := (unhide HJ2).1; omega
            · have heq : ∀ W : World, (binOp .eql 53 (.agg #[.int .u32 (p.a : Int), .int .u64 (p.c : Int)]) (.agg #[.int .u32 (q.a : Int), .int .u64 (q.c : Int)])).run Try.prog W = .ok (.bool false) W := fun W => by
                rw [eqlD, beq_nat, beq_nat, ← Bool.decide_and, decide_eq_false (fun ⟨h1, h2⟩ => hpq (Prod.ext h1 h2))]
              have HCA2 := hide (fun (W : World) => asV (dAhead p.a p.c q.a q.c W))
              rcases bool_cases (ahB_true (d := (p.a, p.c)) (e := (q.a, q.c))) with ⟨hah, hah2⟩ | ⟨hah, hah2⟩ <;> rw [hah] at HCA2 <;> clear hah
              · have HMS : Hid (J = (acc ++ uns b.seen [p]) ++ jn a.seen b.seen al (q :: bl)) := by
                  rw [unhide HM, jn, if_neg hpq, if_pos (show ah p.dot q.dot from hah2), List.append_assoc]; exact rfl
                clear hpq hah2
                go_wp2_with fail
                go_quiet (fail)
                have HBX : Hid (Below W2.heap.size W2 (wr.drewN nq)) := belowDrewN (unhide HI).2 _
                have HOX : Hid (OwnS (wr.drewN nq) W2.heap.size acc xo c3) := (unhide HI).1
                generalize wr.drewN nq = X at HBX HOX ⊢
                clear a1 a2 a3 a4 b1 b2 b3 b4 heq
                go_wp2_with fail
                refine wp_region_last (fun W => Below W2.heap.size W2 W) 9 hmix (belowDrew (unhide HBX)) fun hS => ?_
                have HO0 : Hid (OwnS X.drew W2.heap.size acc xo c3) := unhide HOX
                generalize X.drew = Z0 at hS HO0 ⊢
                refine wpAnyL_take 0 63 (.slice (some ⟨g, o, none⟩) k1 c1) [1, 2, 3, 8] rfl rfl (by kernel_rfl) (by kernel_rfl) (by kernel_rfl) (by kernel_rfl) (by kernel_rfl) (fun _ _ _ h => h) (by rfl) (fun _ _ => by go_simp) hS ?_
                simp only [Act.put, List.setIfInBounds_toArray, List.set_cons_zero, List.set_cons_succ]
                refine wpAnyL_take 1 64 (.pointer (some ⟨g, o, none⟩)) [2, 3, 8] rfl rfl (by kernel_rfl) (by kernel_rfl) (by kernel_rfl) (by kernel_rfl) (by kernel_rfl) (fun _ _ _ h => h) (by rfl) (fun _ _ => by go_simp) hS ?_
                simp only [Act.put, List.setIfInBounds_toArray, List.set_cons_zero, List.set_cons_succ]
                refine wpAnyL_take 2 65 (.pointer (some ⟨g, o, none⟩)) [3, 8] rfl rfl (by kernel_rfl) (by kernel_rfl) (by kernel_rfl) (by kernel_rfl) (by kernel_rfl) (fun _ _ _ h => h) (by rfl) (fun _ _ => by go_simp) hS ?_
                simp only [Act.put, List.setIfInBounds_toArray, List.set_cons_zero, List.set_cons_succ]
                refine wpAnyL_take 3 66 (.agg #[.int .u32 (p.a : Int), .int .u64 (p.c : Int)]) [8] rfl rfl (by kernel_rfl) (by kernel_rfl) (by kernel_rfl) (by kernel_rfl) (by kernel_rfl) (fun _ _ _ h => h) (by rfl) (fun W hW => by obtain ⟨e1, e2, e3, e4⟩ := hC1 W hW; go_simp) hS ?_
                simp only [Act.put, List.setIfInBounds_toArray, List.set_cons_zero, List.set_cons_succ]
                refine wpAnyL_take 4 67 (.slice (some ⟨g2, o2, none⟩) k2 c2) [5, 6, 7, 8] rfl rfl (by kernel_rfl) (by kernel_rfl) (by kernel_rfl) (by kernel_rfl) (by kernel_rfl) (fun _ _ _ h => h) (by rfl) (fun _ _ => by go_simp) hS ?_
                simp only [Act.put, List.setIfInBounds_toArray, List.set_cons_zero, List.set_cons_succ]
                refine wpAnyL_take 5 68 (.pointer (some ⟨g2, o2, none⟩)) [6, 7, 8] rfl rfl (by kernel_rfl) (by kernel_rfl) (by kernel_rfl) (by kernel_rfl) (by kernel_rfl) (fun _ _ _ h => h) (by rfl) (fun _ _ => by go_simp) hS ?_
                simp only [Act.put, List.setIfInBounds_toArray, List.set_cons_zero, List.set_cons_succ]
                refine wpAnyL_take 6 69 (.pointer (some ⟨g2, o2, none⟩)) [7, 8] rfl rfl (by kernel_rfl) (by kernel_rfl) (by kernel_rfl) (by kernel_rfl) (by kernel_rfl) (fun _ _ _ h => h) (by rfl) (fun _ _ => by go_simp) hS ?_
                simp only [Act.put, List.setIfInBounds_toArray, List.set_cons_zero, List.set_cons_succ]
                refine wpAnyL_take 7 70 (.agg #[.int .u32 (q.a : Int), .int .u64 (q.c : Int)]) [8] rfl rfl (by kernel_rfl) (by kernel_rfl) (by kernel_rfl) (by kernel_rfl) (by kernel_rfl) (fun _ _ _ h => h) (by rfl) (fun W hW => by obtain ⟨e1, e2, e3, e4⟩ := hC2 W hW; go_simp) hS ?_
                simp only [Act.put, List.setIfInBounds_toArray, List.set_cons_zero, List.set_cons_succ]
                refine wpAnyL_one (i := 8) (by kernel_rfl) rfl (by rfl) fun K hK => ?_
                refine wp_call_fn 123 _ _ (by rfl) #[.agg #[.int .u32 (p.a : Int), .int .u64 (p.c : Int)], .agg #[.int .u32 (q.a : Int), .int .u64 (q.c : Int)]] (by with_unfolding_all rfl) entAh (some 71) (by rfl) _ (unhide HCA2 _) ?_
                rintro _ X5 ⟨rfl, hbe⟩
                have HB5 : Hid (Below W2.heap.size W2 X5) := hS.trans (hbe.mono hS.size)
                have HO5 := hide (OwnS.below (unhide HO0) hbe)
                clear hbe
                refine hK _ _ (fun _ => unhide HB5) ?_
                clear hK K
                simp only [Act.put, List.setIfInBounds_toArray, List.set_cons_zero, List.set_cons_succ]
                refine wpAnyL_one (i := 9) (by kernel_rfl) rfl (by rfl) fun K hK => ?_
                refine wp_val (.bool true) (by go_simp) (some 62) (by rfl) ?_
                refine hK _ _ (fun _ => unhide HB5) ?_
                clear hK K
                simp only [Act.put, List.setIfInBounds_toArray, List.set_cons_zero, List.set_cons_succ]
                refine wpAnyL_done (by kernel_rfl) ?_ _
                go_wp2_with fail
                refine wp_region_last (fun W => Below W2.heap.size W2 W) 9 hmix (belowDrew (unhide HB5)) fun hS => ?_
                have HO1 : Hid (OwnS X5.drew W2.heap.size acc xo c3) := unhide HO5
                generalize X5.drew = Z1 at hS HO1 ⊢
                refine wpAnyL_take 0 72 (.slice xo n3 c3) [] rfl rfl (by kernel_rfl) (by kernel_rfl) (by kernel_rfl) (by kernel_rfl) (by kernel_rfl) (fun _ _ _ h => h) (by rfl) (fun _ _ => by go_simp) hS ?_
                simp only [Act.put, List.setIfInBounds_toArray, List.set_cons_zero, List.set_cons_succ]
                refine wpAnyL_take 1 73 (.slice (some ⟨g, o, none⟩) k1 c1) [] rfl rfl (by kernel_rfl) (by kernel_rfl) (by kernel_rfl) (by kernel_rfl) (by kernel_rfl) (fun _ _ _ h => h) (by rfl) (fun _ _ => by go_simp) hS ?_
                simp only [Act.put, List.setIfInBounds_toArray, List.set_cons_zero, List.set_cons_succ]
                refine wpAnyL_take 2 74 (.slice (some ⟨g, o, none⟩) 1 c1) [] rfl rfl (by kernel_rfl) (by kernel_rfl) (by kernel_rfl) (by kernel_rfl) (by kernel_rfl) (fun _ _ _ h => h) (by rfl) (fun _ _ => by go_simp) hS ?_
                simp only [Act.put, List.setIfInBounds_toArray, List.set_cons_zero, List.set_cons_succ]
                refine wpAnyL_take 3 75 (.pointer (some ⟨N + 1, 0, none⟩)) [] rfl rfl (by kernel_rfl) (by kernel_rfl) (by kernel_rfl) (by kernel_rfl) (by kernel_rfl) (fun _ _ _ h => h) (by rfl) (fun _ _ => by go_simp) hS ?_
                simp only [Act.put, List.setIfInBounds_toArray, List.set_cons_zero, List.set_cons_succ]
                refine wpAnyL_take 4 76 (.slice w.sa n2 w.sc) [] rfl rfl (by kernel_rfl) (by kernel_rfl) (by kernel_rfl) (by kernel_rfl) (by kernel_rfl) (fun _ _ _ h => h) (by rfl) (fun W hW => by have e1 := unhide HCB W hW; go_simp) hS ?_
                simp only [Act.put, List.setIfInBounds_toArray, List.set_cons_zero, List.set_cons_succ]
                refine wpAnyL_take 6 78 (.slice (some ⟨g, o, none⟩) k1 c1) [] rfl rfl (by kernel_rfl) (by kernel_rfl) (by kernel_rfl) (by kernel_rfl) (by kernel_rfl) (fun _ _ _ h => h) (by rfl) (fun _ _ => by go_simp) hS ?_
                simp only [Act.put, List.setIfInBounds_toArray, List.set_cons_zero, List.set_cons_succ]
                refine wpAnyL_take 7 79 (.slice t1 j1 d1) [] rfl rfl (by kernel_rfl) (by kernel_rfl) (by kernel_rfl) (by kernel_rfl) (by kernel_rfl) (fun _ _ _ h => h) (by rfl) (fun _ _ => by go_simp) hS ?_
                simp only [Act.put, List.setIfInBounds_toArray, List.set_cons_zero, List.set_cons_succ]
                refine wpAnyL_one (i := 5) (by kernel_rfl) rfl (by rfl) fun K hK => ?_
                refine wp_call_fn 131 _ _ (by rfl) #[.slice xo n3 c3, .slice (some ⟨g, o, none⟩) 1 c1, .slice w.sa n2 w.sc] (by with_unfolding_all rfl) entUn (some 77) (by rfl) _ (unhide HUB acc [p] n3 1 (unhide HN3) rfl xo (some ⟨g, o, none⟩) c3 c1 Z1 (unhide HP1) hS (unhide HO1) (by have := unhide HLL; simp only [List.length_cons, List.length_nil]; omega)) ?_
                rintro _ X7 ⟨x7, n7, c7, rfl, h1, h2, h3⟩
                have HN7 := hide h1
                have HO7 := hide h2
                have HB7 := hide h3
                clear h1 h2 h3
                refine hK _ _ (fun _ => unhide HB7) ?_
                clear hK K
                simp only [Act.put, List.setIfInBounds_toArray, List.set_cons_zero, List.set_cons_succ]
                refine wpAnyL_one (i := 8) (by kernel_rfl) rfl (by rfl) fun K hK => ?_
                refine wp_val (.slice x7 n7 c7) (by go_simp) (some 5) (by rfl) ?_
                refine hK _ _ (fun _ => unhide HB7) ?_
                clear hK K
                simp only [Act.put, List.setIfInBounds_toArray, List.set_cons_zero, List.set_cons_succ]
                refine wpAnyL_one (i := 9) (by kernel_rfl) rfl (by rfl) fun K hK => ?_
                refine wp_val (.slice t1 j1 d1) (by go_simp) (some 6) (by rfl) ?_
                refine hK _ _ (fun _ => unhide HB7) ?_
                clear hK K
                simp only [Act.put, List.setIfInBounds_toArray, List.set_cons_zero, List.set_cons_succ]
                refine wpAnyL_done (by kernel_rfl) ?_ _
                go_wp2
                go_roundw
                case rel => exact ⟨acc ++ uns b.seen [p], al, q :: bl, x7, t1, some ⟨g2, o2, none⟩, n7, j1, k2, c7, d1, c2, rfl, rfl, rfl, HN7, (unhide HJ1).2, HK2, HT1, HYS, ⟨unhide HO7, unhide HB7⟩, HMS, hide (by simp only [List.length_append, List.length_cons]; have := unhide HLL; have := uns_len b.seen [p]; simp only [List.length_cons, List.length_nil] at this; omega)⟩
                case measure => simp [slLen]; have := (unhide HJ1).1; have := (unhide HJ2).1; omega
              · have HMS : Hid (J = (acc ++ uns a.seen [q]) ++ jn a.seen b.seen (p :: al) bl) := by
                  rw [unhide HM, jn, if_neg hpq, if_neg (show ¬ ah p.dot q.dot from hah2), List.append_assoc]; exact rfl
                clear hpq hah2
                go_wp2_with fail
                go_quiet (fail)
                have HBX : Hid (Below W2.heap.size W2 (wr.drewN nq)) := belowDrewN (unhide HI).2 _
                have HOX : Hid (OwnS (wr.drewN nq) W2.heap.size acc xo c3) := (unhide HI).1
                generalize wr.drewN nq = X at HBX HOX ⊢
                clear a1 a2 a3 a4 b1 b2 b3 b4 heq
                go_wp2_with fail
                refine wp_region_last (fun W => Below W2.heap.size W2 W) 9 hmix (belowDrew (unhide HBX)) fun hS => ?_
                have HO0 : Hid (OwnS X.drew W2.heap.size acc xo c3) := unhide HOX
                generalize X.drew = Z0 at hS HO0 ⊢
                refine wpAnyL_take 0 63 (.slice (some ⟨g, o, none⟩) k1 c1) [1, 2, 3, 8] rfl rfl (by kernel_rfl) (by kernel_rfl) (by kernel_rfl) (by kernel_rfl) (by kernel_rfl) (fun _ _ _ h => h) (by rfl) (fun _ _ => by go_simp) hS ?_
                simp only [Act.put, List.setIfInBounds_toArray, List.set_cons_zero, List.set_cons_succ]
                refine wpAnyL_take 1 64 (.pointer (some ⟨g, o, none⟩)) [2, 3, 8] rfl rfl (by kernel_rfl) (by kernel_rfl) (by kernel_rfl) (by kernel_rfl) (by kernel_rfl) (fun _ _ _ h => h) (by rfl) (fun _ _ => by go_simp) hS ?_
                simp only [Act.put, List.setIfInBounds_toArray, List.set_cons_zero, List.set_cons_succ]
                refine wpAnyL_take 2 65 (.pointer (some ⟨g, o, none⟩)) [3, 8] rfl rfl (by kernel_rfl) (by kernel_rfl) (by kernel_rfl) (by kernel_rfl) (by kernel_rfl) (fun _ _ _ h => h) (by rfl) (fun _ _ => by go_simp) hS ?_
                simp only [Act.put, List.setIfInBounds_toArray, List.set_cons_zero, List.set_cons_succ]
                refine wpAnyL_take 3 66 (.agg #[.int .u32 (p.a : Int), .int .u64 (p.c : Int)]) [8] rfl rfl (by kernel_rfl) (by kernel_rfl) (by kernel_rfl) (by kernel_rfl) (by kernel_rfl) (fun _ _ _ h => h) (by rfl) (fun W hW => by obtain ⟨e1, e2, e3, e4⟩ := hC1 W hW; go_simp) hS ?_
                simp only [Act.put, List.setIfInBounds_toArray, List.set_cons_zero, List.set_cons_succ]
                refine wpAnyL_take 4 67 (.slice (some ⟨g2, o2, none⟩) k2 c2) [5, 6, 7, 8] rfl rfl (by kernel_rfl) (by kernel_rfl) (by kernel_rfl) (by kernel_rfl) (by kernel_rfl) (fun _ _ _ h => h) (by rfl) (fun _ _ => by go_simp) hS ?_
                simp only [Act.put, List.setIfInBounds_toArray, List.set_cons_zero, List.set_cons_succ]
                refine wpAnyL_take 5 68 (.pointer (some ⟨g2, o2, none⟩)) [6, 7, 8] rfl rfl (by kernel_rfl) (by kernel_rfl) (by kernel_rfl) (by kernel_rfl) (by kernel_rfl) (fun _ _ _ h => h) (by rfl) (fun _ _ => by go_simp) hS ?_
                simp only [Act.put, List.setIfInBounds_toArray, List.set_cons_zero, List.set_cons_succ]
                refine wpAnyL_take 6 69 (.pointer (some ⟨g2, o2, none⟩)) [7, 8] rfl rfl (by kernel_rfl) (by kernel_rfl) (by kernel_rfl) (by kernel_rfl) (by kernel_rfl) (fun _ _ _ h => h) (by rfl) (fun _ _ => by go_simp) hS ?_
                simp only [Act.put, List.setIfInBounds_toArray, List.set_cons_zero, List.set_cons_succ]
                refine wpAnyL_take 7 70 (.agg #[.int .u32 (q.a : Int), .int .u64 (q.c : Int)]) [8] rfl rfl (by kernel_rfl) (by kernel_rfl) (by kernel_rfl) (by kernel_rfl) (by kernel_rfl) (fun _ _ _ h => h) (by rfl) (fun W hW => by obtain ⟨e1, e2, e3, e4⟩ := hC2 W hW; go_simp) hS ?_
                simp only [Act.put, List.setIfInBounds_toArray, List.set_cons_zero, List.set_cons_succ]
                refine wpAnyL_one (i := 8) (by kernel_rfl) rfl (by rfl) fun K hK => ?_
                refine wp_call_fn 123 _ _ (by rfl) #[.agg #[.int .u32 (p.a : Int), .int .u64 (p.c : Int)], .agg #[.int .u32 (q.a : Int), .int .u64 (q.c : Int)]] (by with_unfolding_all rfl) entAh (some 71) (by rfl) _ (unhide HCA2 _) ?_
                rintro _ X5 ⟨rfl, hbe⟩
                have HB5 : Hid (Below W2.heap.size W2 X5) := hS.trans (hbe.mono hS.size)
                have HO5 := hide (OwnS.below (unhide HO0) hbe)
                clear hbe
                refine hK _ _ (fun _ => unhide HB5) ?_
                clear hK K
                simp only [Act.put, List.setIfInBounds_toArray, List.set_cons_zero, List.set_cons_succ]
                refine wpAnyL_one (i := 9) (by kernel_rfl) rfl (by rfl) fun K hK => ?_
                refine wp_val (.bool false) (by go_simp) (some 62) (by rfl) ?_
                refine hK _ _ (fun _ => unhide HB5) ?_
                clear hK K
                simp only [Act.put, List.setIfInBounds_toArray, List.set_cons_zero, List.set_cons_succ]
                refine wpAnyL_done (by kernel_rfl) ?_ _
                go_wp2_with fail
                refine wp_region_last (fun W => Below W2.heap.size W2 W) 9 hmix (belowDrew (unhide HB5)) fun hS => ?_
                have HO1 : Hid (OwnS X5.drew W2.heap.size acc xo c3) := unhide HO5
                generalize X5.drew = Z1 at hS HO1 ⊢
                refine wpAnyL_take 0 12 (.slice xo n3 c3) [] rfl rfl (by kernel_rfl) (by kernel_rfl) (by kernel_rfl) (by kernel_rfl) (by kernel_rfl) (fun _ _ _ h => h) (by rfl) (fun _ _ => by go_simp) hS ?_
                simp only [Act.put, List.setIfInBounds_toArray, List.set_cons_zero, List.set_cons_succ]
                refine wpAnyL_take 1 13 (.slice (some ⟨g2, o2, none⟩) k2 c2) [] rfl rfl (by kernel_rfl) (by kernel_rfl) (by kernel_rfl) (by kernel_rfl) (by kernel_rfl) (fun _ _ _ h => h) (by rfl) (fun _ _ => by go_simp) hS ?_
                simp only [Act.put, List.setIfInBounds_toArray, List.set_cons_zero, List.set_cons_succ]
                refine wpAnyL_take 2 14 (.slice (some ⟨g2, o2, none⟩) 1 c2) [] rfl rfl (by kernel_rfl) (by kernel_rfl) (by kernel_rfl) (by kernel_rfl) (by kernel_rfl) (fun _ _ _ h => h) (by rfl) (fun _ _ => by go_simp) hS ?_
                simp only [Act.put, List.setIfInBounds_toArray, List.set_cons_zero, List.set_cons_succ]
                refine wpAnyL_take 3 15 (.pointer (some ⟨N, 0, none⟩)) [] rfl rfl (by kernel_rfl) (by kernel_rfl) (by kernel_rfl) (by kernel_rfl) (by kernel_rfl) (fun _ _ _ h => h) (by rfl) (fun _ _ => by go_simp) hS ?_
                simp only [Act.put, List.setIfInBounds_toArray, List.set_cons_zero, List.set_cons_succ]
                refine wpAnyL_take 4 16 (.slice v.sa n1 v.sc) [] rfl rfl (by kernel_rfl) (by kernel_rfl) (by kernel_rfl) (by kernel_rfl) (by kernel_rfl) (fun _ _ _ h => h) (by rfl) (fun W hW => by have e1 := unhide HCA W hW; go_simp) hS ?_
                simp only [Act.put, List.setIfInBounds_toArray, List.set_cons_zero, List.set_cons_succ]
                refine wpAnyL_take 6 18 (.slice (some ⟨g2, o2, none⟩) k2 c2) [] rfl rfl (by kernel_rfl) (by kernel_rfl) (by kernel_rfl) (by kernel_rfl) (by kernel_rfl) (fun _ _ _ h => h) (by rfl) (fun _ _ => by go_simp) hS ?_
                simp only [Act.put, List.setIfInBounds_toArray, List.set_cons_zero, List.set_cons_succ]
                refine wpAnyL_take 7 19 (.slice t2 j2 d2) [] rfl rfl (by kernel_rfl) (by kernel_rfl) (by kernel_rfl) (by kernel_rfl) (by kernel_rfl) (fun _ _ _ h => h) (by rfl) (fun _ _ => by go_simp) hS ?_
                simp only [Act.put, List.setIfInBounds_toArray, List.set_cons_zero, List.set_cons_succ]
                refine wpAnyL_one (i := 5) (by kernel_rfl) rfl (by rfl) fun K hK => ?_
                refine wp_call_fn 131 _ _ (by rfl) #[.slice xo n3 c3, .slice (some ⟨g2, o2, none⟩) 1 c2, .slice v.sa n1 v.sc] (by with_unfolding_all rfl) entUn (some 17) (by rfl) _ (unhide HUA acc [q] n3 1 (unhide HN3) rfl xo (some ⟨g2, o2, none⟩) c3 c2 Z1 (unhide HP2) hS (unhide HO1) (by have := unhide HLL; simp only [List.length_cons, List.length_nil]; omega)) ?_
                rintro _ X7 ⟨x7, n7, c7, rfl, h1, h2, h3⟩
                have HN7 := hide h1
                have HO7 := hide h2
                have HB7 := hide h3
                clear h1 h2 h3
                refine hK _ _ (fun _ => unhide HB7) ?_
                clear hK K
                simp only [Act.put, List.setIfInBounds_toArray, List.set_cons_zero, List.set_cons_succ]
                refine wpAnyL_one (i := 8) (by kernel_rfl) rfl (by rfl) fun K hK => ?_
                refine wp_val (.slice x7 n7 c7) (by go_simp) (some 5) (by rfl) ?_
                refine hK _ _ (fun _ => unhide HB7) ?_
                clear hK K
                simp only [Act.put, List.setIfInBounds_toArray, List.set_cons_zero, List.set_cons_succ]
                refine wpAnyL_one (i := 9) (by kernel_rfl) rfl (by rfl) fun K hK => ?_
                refine wp_val (.slice t2 j2 d2) (by go_simp) (some 7) (by rfl) ?_
                refine hK _ _ (fun _ => unhide HB7) ?_
                clear hK K
                simp only [Act.put, List.setIfInBounds_toArray, List.set_cons_zero, List.set_cons_succ]
                refine wpAnyL_done (by kernel_rfl) ?_ _
                go_wp2
                go_roundw
                case rel => exact ⟨acc ++ uns a.seen [q], p :: al, bl, x7, some ⟨g, o, none⟩, t2, n7, k1, j2, c7, c1, d2, rfl, rfl, rfl, HN7, HK1, (unhide HJ2).2, HXS, HT2, ⟨unhide HO7, unhide HB7⟩, HMS, hide (by simp only [List.length_append, List.length_cons]; have := unhide HLL; have := uns_len a.seen [q]; simp only [List.length_cons, List.length_nil] at this; omega)⟩
                case measure => simp [slLen]; have := (unhide HJ1).1; have := (unhide HJ2).1; omega
end Go.Proofs.Ytkcbljmjhlnjpaa
