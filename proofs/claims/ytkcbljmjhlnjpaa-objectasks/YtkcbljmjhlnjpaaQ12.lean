/- States: the state behind a put. -/
import Derived.Test.YtkcbljmjhlnjpaaQ11
namespace Go.Proofs.Ytkcbljmjhlnjpaa
open Go.RowKit Go.Lib
theorem entBt : ∀ args (w : World), (callFunc 134 args).run Try.prog w = .ok (.enter 134 args) w := by
  intro args w
  go_simp
/-- the state behind a put, however great -/
def putS (s : St) (ctx : List (Nat × Nat)) (x : Sb) : St := ⟨V.mrg (V.mrg s.seen ctx) [x.dot], btw (uns ctx s.sibs) x⟩
theorem oneOk {d : Nat × Nat} (h1 : 1 ≤ d.2) (h2 : d.2 ≤ 1099511627776) : V.Ok [d] := ⟨⟨List.pairwise_singleton _ _, fun e he => by rw [List.mem_singleton.1 he]; exact ⟨h1, h2⟩⟩, by simp⟩
theorem fit_put {s : St} {ctx : List (Nat × Nat)} {x : Sb} (h : FitT s) (hc : Fits ctx) (hx : x.Fit) : FitT (putS s ctx x) := ⟨fits_mrg (fits_mrg h.seen hc) (fun d hd => by rw [List.mem_singleton.1 hd]; exact ⟨hx.1, hx.2.1⟩), fun z hz => by
  rcases mem_btw.1 hz with rfl | hz
  · exact hx
  · exact h.sibs z (mem_uns.1 hz).1⟩
set_option maxRecDepth 100000 in
set_option maxHeartbeats 8000000 in
theorem dBehind (s : St) (v : Sv) (ctx : List (Nat × Nat)) (xc : Option Addr) (cc nc : Nat) (ec : nc = ctx.length) (x : Sb) (u : World) (hs : SAt u s v) (hc : Da u ctx xc cc) (os : SOk s) (oc : V.Ok ctx) (hx : x.Fit) (hx1 : 1 ≤ x.c) (hx2 : x.c ≤ 1099511627776)
    (J : St) (r : Int) (h1 : (putS s ctx x).seen.length ≤ 64 ∧ (putS s ctx x).sibs.length ≤ 64 → J = putS s ctx x ∧ r = 0) (h2 : ¬ ((putS s ctx x).seen.length ≤ 64 ∧ (putS s ctx x).sibs.length ≤ 64) → J = St.none ∧ r = 82) :
    Calls Try.prog 97 #[v.v s.seen.length s.sibs.length, .slice xc nc cc, x.v] u fun e u' => ∃ y n m, e = .returned (.tuple #[Sv.v y n m, .int .i64 r]) ∧ n = J.seen.length ∧ m = J.sibs.length ∧ OwnT u' u.heap.size J y ∧ Below u.heap.size u u' := by
  have hmix : Try.prog.follows .mixedOrders = true := by kernel_rfl
  obtain ⟨N, hN⟩ : ∃ N, N = u.heap.size := ⟨_, rfl⟩
  have HN := hide hN
  have HA := hide hs
  have HB := hide hc
  rw [← hN]
  obtain ⟨n1, hn1⟩ : ∃ n, n = s.seen.length := ⟨_, rfl⟩
  obtain ⟨m1, hm1⟩ : ∃ n, n = s.sibs.length := ⟨_, rfl⟩
  have E1 := hide hn1
  have E2 := hide hm1
  have EC := hide ec
  rw [← hn1, ← hm1]
  have HOS := hide os
  have HOC := hide oc
  have HFX := hide hx
  have HX12 : Hid (V.Ok [x.dot]) := oneOk hx1 hx2
  have HFM : Hid (Fits (V.mrg s.seen ctx)) := fits_mrg hs.seen.fits hc.fits
  have HML : Hid ((V.mrg s.seen ctx).length ≤ 128) := hide (by have := V.mrg_len_le s.seen ctx; have := os.slen; have := oc.len; omega)
  have HGE : Hid ((V.mrg s.seen ctx).length ≤ (putS s ctx x).seen.length) := (V.len_mrg_ge (V.mrg s.seen ctx) [x.dot]).1
  have HUL : Hid ((uns ctx s.sibs).length ≤ 64) := hide (Nat.le_trans (uns_len _ _) os.len)
  have HMX : Hid (∀ (m : List (Nat × Nat)) (r : Int) (W : World), maxV s.seen ctx = (m, r) → SAt W s v → Da W ctx xc cc → Calls Try.prog 88 #[.slice v.sa n1 v.sc, .slice xc nc cc] W fun e W' => ∃ xm nm cm, e = .returned (.tuple #[.slice xm nm cm, .int .i64 r]) ∧ nm = m.length ∧ OwnD W' W.heap.size m xm cm ∧ Below W.heap.size W W') := fun m r W hr h1 h2 => kMaxO m r hr hn1 ec h1.seen h2
  have HM2 : Hid (∀ (m : List (Nat × Nat)) (r : Int) (W : World) (xm : Option Addr) (nm cm B : Nat), maxV (V.mrg s.seen ctx) [x.dot] = (m, r) → nm = (V.mrg s.seen ctx).length → Da W (V.mrg s.seen ctx) xm cm → Dv W [x.dot] (some ⟨B, 0, none⟩) 1 → Calls Try.prog 88 #[.slice xm nm cm, .slice (some ⟨B, 0, none⟩) 1 1] W fun e W' => ∃ xm nm cm, e = .returned (.tuple #[.slice xm nm cm, .int .i64 r]) ∧ nm = m.length ∧ OwnD W' W.heap.size m xm cm ∧ Below W.heap.size W W') := fun m r W xm nm cm B hr e1 h1 h2 => kMaxO m r hr e1 rfl h1 ⟨h2, fun d hd => by rw [List.mem_singleton.1 hd]; exact ⟨hx.1, hx.2.1⟩, by simp⟩
  have HUN : Hid (∀ (W0 W : World), SAt W0 s v → Da W0 ctx xc cc → Below W0.heap.size W0 W → Calls Try.prog 131 #[.slice none 0 0, .slice v.ba m1 v.bc, .slice xc nc cc] W fun e W' => ∃ r, e = .returned r ∧ ∃ xo' n' c', r = .slice xo' n' c' ∧ n' = (uns ctx s.sibs).length ∧ OwnS W' W0.heap.size (uns ctx s.sibs) xo' c' ∧ Below W0.heap.size W0 W') := fun W0 W h1 h2 hb => (dUnseen [] s.sibs ctx 0 m1 nc rfl hm1 ec none v.ba xc 0 v.bc cc W0 W oc h2 h1.sibs.dw hb (OwnS.nil _ _) (by have := os.len; simp only [List.length_nil]; omega)).mono fun e W' h => by
    obtain ⟨x, n, c, h1, h2⟩ := h
    exact ⟨_, h1, x, n, c, rfl, h2⟩
  have HBT : Hid (∀ (W : World) (ao : Option Addr) (n c : Nat), n = (uns ctx s.sibs).length → Dw W (uns ctx s.sibs) ao c → Calls Try.prog 134 #[.slice ao n c, x.v] W fun e W' => ∃ r, e = .returned r ∧ ∃ xo' n' c', r = .slice xo' n' c' ∧ n' = (putS s ctx x).sibs.length ∧ OwnS W' W.heap.size (putS s ctx x).sibs xo' c' ∧ Below W.heap.size W W') := fun W ao n c e1 h1 => (dBetween (uns ctx s.sibs) x ao c n e1 W h1 (by have := unhide HUL; omega)).mono fun e W' h => by
    obtain ⟨x, n, c, h1, h2⟩ := h
    exact ⟨_, h1, x, n, c, rfl, h2⟩
  have HBL : Hid ((putS s ctx x).sibs.length ≤ 65) := hide (by
    show (btw (uns ctx s.sibs) x).length ≤ 65
    rw [btw_len]; have := unhide HUL; omega)
  have HSE : Hid ((putS s ctx x).seen = V.mrg (V.mrg s.seen ctx) [x.dot]) := rfl
  have HU : Hid (∀ W : World, Below N u W → Below u.heap.size u W) := fun W hW => by rw [← unhide HN]; exact hW
  clear hN hs hc os oc hx hx1 hx2 hn1 hm1 ec
  generalize putS s ctx x = PS at *
  obtain ⟨xa, xn, xg, xv⟩ := x
  by_cases g1 : (V.mrg s.seen ctx).length ≤ 64
  · have HE := hide (max_ok (unhide HOS).ok (unhide HOC) g1)
    have HO1 := hide (mrg_ok (unhide HOS).ok (unhide HOC) g1)
    by_cases g2 : PS.seen.length ≤ 64
    · have HE2 := hide (max_ok (unhide HO1) (unhide HX12) (by rw [← unhide HSE]; exact g2))
      rw [← unhide HSE] at HE2
      by_cases g3 : PS.sibs.length ≤ 64
      · obtain ⟨rfl, rfl⟩ := h1 ⟨g2, g3⟩
        have HG3 := hide g3
        clear h1 h2 g1 g2 g3
        go_enter Try.func97, Try.ntmps97
        go_wp2_with (first
          | ((with_reducible refine wpList_box_state (by rfl) (.tmp 0) (by rfl) (some 3) (by rfl) N (unhide HN) v n1 m1 (by with_unfolding_all rfl) ?_); intro W1 HX1 HB1 HS1; simp only [Act.put, List.setIfInBounds_toArray, List.set_cons_zero, List.set_cons_succ])
          | ((with_reducible refine wpList_box_sib (by rfl) (.tmp 2) (by rfl) (some 5) (by rfl) (N + 1) (unhide HS1).symm ⟨xa, xn, xg, xv⟩ (by with_unfolding_all rfl) ?_); intro W2 HX2 HB2 HS2; simp only [Act.put, List.setIfInBounds_toArray, List.set_cons_zero, List.set_cons_succ])
          | ((with_reducible refine wpList_alloc_state (by rfl) (by rfl) (some 6) (by rfl) (N + 1 + 1) (unhide HS2).symm ?_); intro W3 HX3 HB3 HS3; simp only [Act.put, List.setIfInBounds_toArray, List.set_cons_zero, List.set_cons_succ]; have HY1 : Hid (W3.heap[N]? = some (stRow v n1 m1)) := ((unhide HB3).block N (by omega)).trans (((unhide HB2).block N (Nat.lt_succ_self _)).trans (unhide HX1)); have HY2 : Hid (W3.heap[N + 1]? = some (sibRow ⟨xa, xn, xg, xv⟩)) := ((unhide HB3).block (N + 1) (Nat.lt_succ_self _)).trans (unhide HX2); have HBU : Hid (Below N u W3) := (unhide HB1).trans (((unhide HB2).mono (Nat.le_succ _)).trans ((unhide HB3).mono (by omega))); have HA3 := hide ((unhide HA).below (unhide HU _ (unhide HBU))); have HB4 := hide ((unhide HB).below (unhide HU _ (unhide HBU))); obtain ⟨x0, x1⟩ := st_cells (unhide HY1); clear HX1 HX2 HB1 HB2 HB3 HS1 HS2)
          | (go_at_call 88; refine (unhide HMX _ _ W3 (unhide HE) (unhide HA3) (unhide HB4)).mono ?_; rintro e W5 ⟨xm, nm, cm, rfl, h1, h2, h3⟩; have HW5 := hide h3; have HN5 := hide h1; have HO5 := hide h2; clear h1 h2 h3 HMX; obtain ⟨y0, y1, y2, y3⟩ := sib_cells (box_below (unhide HY2) (unhide HW5)))
          | (go_at_call 88; have hbe : Below W5.heap.size W5 (W5.alloc (.cells #[.int .u32 (xa : Int), .int .u64 (xn : Int)] 53)) := (Below.refl _ _).alloc (Nat.le_refl _) _; have HA6 := hide ((unhide HW5).trans (hbe.mono (unhide HW5).size)); have hd6 := Dv.one W5 (xa, xn) 53; refine (unhide HM2 _ _ _ xm nm cm W5.heap.size (unhide HE2) (unhide HN5) ⟨((unhide HO5).below hbe).dv, unhide HFM, by have := unhide HML; omega⟩ hd6).mono ?_; rintro e W6 ⟨xp, np, cp, rfl, h1, h2, h3⟩; have HW6 : Hid (Below W3.heap.size W3 W6) := (unhide HA6).trans (h3.mono (unhide HA6).size); have HN6 := hide h1; have HO6 : Hid (OwnD W6 W3.heap.size _ xp cp) := own_down h2 (unhide HA6).size; clear h1 h2 h3 hbe hd6)
          | fail)
        have hC1 : ∀ W : World, Below W3.heap.size W3 W → W.cell? ⟨N, 0, none⟩ = some (.slice v.sa n1 v.sc) ∧ W.cell? ⟨N, 1, none⟩ = some (.slice v.ba m1 v.bc) := fun W hW => st_cells (box_below (unhide HY1) hW)
        have hC2 : ∀ W : World, Below W3.heap.size W3 W → W.cell? ⟨N + 1, 0, none⟩ = some (.int .u32 (xa : Int)) ∧ W.cell? ⟨N + 1, 1, none⟩ = some (.int .u64 (xn : Int)) ∧ W.cell? ⟨N + 1, 2, none⟩ = some (.bool xg) ∧ W.cell? ⟨N + 1, 3, none⟩ = some (.string xv) := fun W hW => sib_cells (box_below (unhide HY2) hW)
        refine wp_region_last (fun W => Below W3.heap.size W3 W) 6 hmix (belowDrew (unhide HW6)) fun hS => ?_
        have HZ6 : Hid (Below W6.heap.size W6 W6.drew) := belowDrew (Below.refl _ _)
        generalize W6.drew = Z0 at hS HZ6 ⊢
        have HAZ := hide ((unhide HA3).below hS)
        have HCZ := hide ((unhide HB4).below hS)
        refine wpAnyL_take 0 35 (.pointer (some ⟨N, 1, none⟩)) [] rfl rfl (by kernel_rfl) (by kernel_rfl) (by kernel_rfl) (by kernel_rfl) (by kernel_rfl) (fun _ _ _ h => h) (by rfl) (fun _ _ => by go_simp) hS ?_
        simp only [Act.put, List.setIfInBounds_toArray, List.set_cons_zero, List.set_cons_succ]
        refine wpAnyL_take 1 36 (.slice v.ba m1 v.bc) [] rfl rfl (by kernel_rfl) (by kernel_rfl) (by kernel_rfl) (by kernel_rfl) (by kernel_rfl) (fun _ _ _ h => h) (by rfl) (fun W hW => by obtain ⟨e1, e2⟩ := hC1 W hW; go_simp) hS ?_
        simp only [Act.put, List.setIfInBounds_toArray, List.set_cons_zero, List.set_cons_succ]
        refine wpAnyL_take 2 37 (.slice xc nc cc) [] rfl rfl (by kernel_rfl) (by kernel_rfl) (by kernel_rfl) (by kernel_rfl) (by kernel_rfl) (fun _ _ _ h => h) (by rfl) (fun _ _ => by go_simp) hS ?_
        simp only [Act.put, List.setIfInBounds_toArray, List.set_cons_zero, List.set_cons_succ]
        refine wpAnyL_take 4 39 (Sb.v ⟨xa, xn, xg, xv⟩) [] rfl rfl (by kernel_rfl) (by kernel_rfl) (by kernel_rfl) (by kernel_rfl) (by kernel_rfl) (fun _ _ _ h => h) (by rfl) (fun W hW => by obtain ⟨e1, e2, e3, e4⟩ := hC2 W hW; unfold Sb.v; go_simp) hS ?_
        simp only [Act.put, List.setIfInBounds_toArray, List.set_cons_zero, List.set_cons_succ]
        refine wpAnyL_one (i := 3) (by kernel_rfl) rfl (by rfl) fun K hK => ?_
        refine wp_call_fn 131 _ _ (by rfl) #[.slice none 0 0, .slice v.ba m1 v.bc, .slice xc nc cc] (by with_unfolding_all rfl) entUn (some 38) (by rfl) _ (unhide HUN Z0 Z0 (unhide HAZ) (unhide HCZ) (Below.refl _ _)) ?_
        rintro _ X7 ⟨x7, n7, c7, rfl, h1, h2, h3⟩
        have HN7 := hide h1
        have HO7 := hide h2
        have HB7 : Hid (Below W3.heap.size W3 X7) := hS.trans (h3.mono hS.size)
        have HD7 : Hid (OwnD X7 W3.heap.size _ xp cp) := (unhide HO6).below ((unhide HZ6).trans (h3.mono (unhide HZ6).size))
        clear h1 h2 h3
        refine hK _ _ (fun _ => unhide HB7) ?_
        clear hK K
        simp only [Act.put, List.setIfInBounds_toArray, List.set_cons_zero, List.set_cons_succ]
        refine wpAnyL_one (i := 5) (by kernel_rfl) rfl (by rfl) fun K hK => ?_
        refine wp_call_fn 134 _ _ (by rfl) #[.slice x7 n7 c7, Sb.v ⟨xa, xn, xg, xv⟩] (by with_unfolding_all rfl) entBt (some 40) (by rfl) _ (unhide HBT X7 x7 n7 c7 (unhide HN7) (unhide HO7).dw) ?_
        rintro _ X8 ⟨x8, n8, c8, rfl, h1, h2, h3⟩
        have HN8 := hide h1
        have HO8 : Hid (OwnS X8 W3.heap.size _ x8 c8) := own_down h2 (unhide HB7).size
        have HB8 : Hid (Below W3.heap.size W3 X8) := (unhide HB7).trans (h3.mono (unhide HB7).size)
        have HD8 : Hid (OwnD X8 W3.heap.size _ xp cp) := (unhide HD7).below h3
        clear h1 h2 h3
        refine hK _ _ (fun _ => unhide HB8) ?_
        clear hK K
        simp only [Act.put, List.setIfInBounds_toArray, List.set_cons_zero, List.set_cons_succ]
        refine wpAnyL_one (i := 6) (by kernel_rfl) rfl (by rfl) fun K hK => ?_
        refine wp_val (.slice x8 n8 c8) (by go_simp) (some 11) (by rfl) ?_
        refine hK _ _ (fun _ => unhide HB8) ?_
        clear hK K
        simp only [Act.put, List.setIfInBounds_toArray, List.set_cons_zero, List.set_cons_succ]
        refine wpAnyL_done (by kernel_rfl) ?_ _
        have hn8 : (n8 : Int) ≤ 65 := by have := unhide HBL; have := unhide HN8; omega
        have h64 : ¬ (64 : Int) < (n8 : Int) := by have := unhide HG3; have := unhide HN8; omega
        go_wp2_with (first
          | ((with_reducible refine wpList_store_state (by rfl) (.tmp 6) (.tmp 47) (by rfl) (N + 1 + 1) ⟨xp, cp, x8, c8⟩ np n8 (by with_unfolding_all rfl) (by with_unfolding_all rfl) Sv.none 0 0 (box_below (unhide HX3) (unhide HB8)) ?_); intro W9 HX9 HE9; simp only [Act.put])
          | fail)
        have HNS : Hid (N + 1 + 1 < W3.heap.size) := by rw [unhide HS3]; exact Nat.lt_succ_self _
        have HMS : Hid (OwnD W9 N J.seen xp cp) := by
          rw [unhide HE9]
          refine own_keep (own_down (unhide HD8) (by have := unhide HNS; omega)) fun g hg => heapRow_other _ _ _ _ ?_
          have := (World.ownsRow.lt (unhide HD8) g hg).1
          have := unhide HNS
          omega
        have HMB : Hid (OwnS W9 N J.sibs x8 c8) := by
          rw [unhide HE9]
          refine own_keep (own_down (unhide HO8) (by have := unhide HNS; omega)) fun g hg => heapRow_other _ _ _ _ ?_
          have := (World.ownsRow.lt (unhide HO8) g hg).1
          have := unhide HNS
          omega
        refine bodyPost_ret (results_cell_tmp rfl _ _ (N + 1 + 1) 31 #[.slice (⟨xp, cp, x8, c8⟩ : Sv).sa np (⟨xp, cp, x8, c8⟩ : Sv).sc, .slice (⟨xp, cp, x8, c8⟩ : Sv).ba n8 (⟨xp, cp, x8, c8⟩ : Sv).bc] (0, 0) _ rfl (unhide HX9) stateUnd rfl stateInfo) rfl ?_
        have HB9 : Hid (Below N u W9) := by rw [unhide HE9]; exact belowRow ((unhide HBU).trans ((unhide HB8).mono (by rw [unhide HS3]; omega))) (by omega) _
        exact ⟨(⟨xp, cp, x8, c8⟩ : Sv), np, n8, rfl, unhide HN6, unhide HN8, ⟨unhide HMS, unhide HMB⟩, unhide HB9⟩
      · obtain ⟨rfl, rfl⟩ := h2 (fun h => g3 h.2)
        have HG3 := hide g3
        clear h1 h2 g1 g2 g3
        go_enter Try.func97, Try.ntmps97
        go_wp2_with (first
          | ((with_reducible refine wpList_box_state (by rfl) (.tmp 0) (by rfl) (some 3) (by rfl) N (unhide HN) v n1 m1 (by with_unfolding_all rfl) ?_); intro W1 HX1 HB1 HS1; simp only [Act.put, List.setIfInBounds_toArray, List.set_cons_zero, List.set_cons_succ])
          | ((with_reducible refine wpList_box_sib (by rfl) (.tmp 2) (by rfl) (some 5) (by rfl) (N + 1) (unhide HS1).symm ⟨xa, xn, xg, xv⟩ (by with_unfolding_all rfl) ?_); intro W2 HX2 HB2 HS2; simp only [Act.put, List.setIfInBounds_toArray, List.set_cons_zero, List.set_cons_succ])
          | ((with_reducible refine wpList_alloc_state (by rfl) (by rfl) (some 6) (by rfl) (N + 1 + 1) (unhide HS2).symm ?_); intro W3 HX3 HB3 HS3; simp only [Act.put, List.setIfInBounds_toArray, List.set_cons_zero, List.set_cons_succ]; have HY1 : Hid (W3.heap[N]? = some (stRow v n1 m1)) := ((unhide HB3).block N (by omega)).trans (((unhide HB2).block N (Nat.lt_succ_self _)).trans (unhide HX1)); have HY2 : Hid (W3.heap[N + 1]? = some (sibRow ⟨xa, xn, xg, xv⟩)) := ((unhide HB3).block (N + 1) (Nat.lt_succ_self _)).trans (unhide HX2); have HBU : Hid (Below N u W3) := (unhide HB1).trans (((unhide HB2).mono (Nat.le_succ _)).trans ((unhide HB3).mono (by omega))); have HA3 := hide ((unhide HA).below (unhide HU _ (unhide HBU))); have HB4 := hide ((unhide HB).below (unhide HU _ (unhide HBU))); obtain ⟨x0, x1⟩ := st_cells (unhide HY1); clear HX1 HX2 HB1 HB2 HB3 HS1 HS2)
          | (go_at_call 88; refine (unhide HMX _ _ W3 (unhide HE) (unhide HA3) (unhide HB4)).mono ?_; rintro e W5 ⟨xm, nm, cm, rfl, h1, h2, h3⟩; have HW5 := hide h3; have HN5 := hide h1; have HO5 := hide h2; clear h1 h2 h3 HMX; obtain ⟨y0, y1, y2, y3⟩ := sib_cells (box_below (unhide HY2) (unhide HW5)))
          | (go_at_call 88; have hbe : Below W5.heap.size W5 (W5.alloc (.cells #[.int .u32 (xa : Int), .int .u64 (xn : Int)] 53)) := (Below.refl _ _).alloc (Nat.le_refl _) _; have HA6 := hide ((unhide HW5).trans (hbe.mono (unhide HW5).size)); have hd6 := Dv.one W5 (xa, xn) 53; refine (unhide HM2 _ _ _ xm nm cm W5.heap.size (unhide HE2) (unhide HN5) ⟨((unhide HO5).below hbe).dv, unhide HFM, by have := unhide HML; omega⟩ hd6).mono ?_; rintro e W6 ⟨xp, np, cp, rfl, h1, h2, h3⟩; have HW6 : Hid (Below W3.heap.size W3 W6) := (unhide HA6).trans (h3.mono (unhide HA6).size); have HN6 := hide h1; have HO6 : Hid (OwnD W6 W3.heap.size _ xp cp) := own_down h2 (unhide HA6).size; clear h1 h2 h3 hbe hd6)
          | fail)
        have hC1 : ∀ W : World, Below W3.heap.size W3 W → W.cell? ⟨N, 0, none⟩ = some (.slice v.sa n1 v.sc) ∧ W.cell? ⟨N, 1, none⟩ = some (.slice v.ba m1 v.bc) := fun W hW => st_cells (box_below (unhide HY1) hW)
        have hC2 : ∀ W : World, Below W3.heap.size W3 W → W.cell? ⟨N + 1, 0, none⟩ = some (.int .u32 (xa : Int)) ∧ W.cell? ⟨N + 1, 1, none⟩ = some (.int .u64 (xn : Int)) ∧ W.cell? ⟨N + 1, 2, none⟩ = some (.bool xg) ∧ W.cell? ⟨N + 1, 3, none⟩ = some (.string xv) := fun W hW => sib_cells (box_below (unhide HY2) hW)
        refine wp_region_last (fun W => Below W3.heap.size W3 W) 6 hmix (belowDrew (unhide HW6)) fun hS => ?_
        have HZ6 : Hid (Below W6.heap.size W6 W6.drew) := belowDrew (Below.refl _ _)
        generalize W6.drew = Z0 at hS HZ6 ⊢
        have HAZ := hide ((unhide HA3).below hS)
        have HCZ := hide ((unhide HB4).below hS)
        refine wpAnyL_take 0 35 (.pointer (some ⟨N, 1, none⟩)) [] rfl rfl (by kernel_rfl) (by kernel_rfl) (by kernel_rfl) (by kernel_rfl) (by kernel_rfl) (fun _ _ _ h => h) (by rfl) (fun _ _ => by go_simp) hS ?_
        simp only [Act.put, List.setIfInBounds_toArray, List.set_cons_zero, List.set_cons_succ]
        refine wpAnyL_take 1 36 (.slice v.ba m1 v.bc) [] rfl rfl (by kernel_rfl) (by kernel_rfl) (by kernel_rfl) (by kernel_rfl) (by kernel_rfl) (fun _ _ _ h => h) (by rfl) (fun W hW => by obtain ⟨e1, e2⟩ := hC1 W hW; go_simp) hS ?_
        simp only [Act.put, List.setIfInBounds_toArray, List.set_cons_zero, List.set_cons_succ]
        refine wpAnyL_take 2 37 (.slice xc nc cc) [] rfl rfl (by kernel_rfl) (by kernel_rfl) (by kernel_rfl) (by kernel_rfl) (by kernel_rfl) (fun _ _ _ h => h) (by rfl) (fun _ _ => by go_simp) hS ?_
        simp only [Act.put, List.setIfInBounds_toArray, List.set_cons_zero, List.set_cons_succ]
        refine wpAnyL_take 4 39 (Sb.v ⟨xa, xn, xg, xv⟩) [] rfl rfl (by kernel_rfl) (by kernel_rfl) (by kernel_rfl) (by kernel_rfl) (by kernel_rfl) (fun _ _ _ h => h) (by rfl) (fun W hW => by obtain ⟨e1, e2, e3, e4⟩ := hC2 W hW; unfold Sb.v; go_simp) hS ?_
        simp only [Act.put, List.setIfInBounds_toArray, List.set_cons_zero, List.set_cons_succ]
        refine wpAnyL_one (i := 3) (by kernel_rfl) rfl (by rfl) fun K hK => ?_
        refine wp_call_fn 131 _ _ (by rfl) #[.slice none 0 0, .slice v.ba m1 v.bc, .slice xc nc cc] (by with_unfolding_all rfl) entUn (some 38) (by rfl) _ (unhide HUN Z0 Z0 (unhide HAZ) (unhide HCZ) (Below.refl _ _)) ?_
        rintro _ X7 ⟨x7, n7, c7, rfl, h1, h2, h3⟩
        have HN7 := hide h1
        have HO7 := hide h2
        have HB7 : Hid (Below W3.heap.size W3 X7) := hS.trans (h3.mono hS.size)
        have HD7 : Hid (OwnD X7 W3.heap.size _ xp cp) := (unhide HO6).below ((unhide HZ6).trans (h3.mono (unhide HZ6).size))
        clear h1 h2 h3
        refine hK _ _ (fun _ => unhide HB7) ?_
        clear hK K
        simp only [Act.put, List.setIfInBounds_toArray, List.set_cons_zero, List.set_cons_succ]
        refine wpAnyL_one (i := 5) (by kernel_rfl) rfl (by rfl) fun K hK => ?_
        refine wp_call_fn 134 _ _ (by rfl) #[.slice x7 n7 c7, Sb.v ⟨xa, xn, xg, xv⟩] (by with_unfolding_all rfl) entBt (some 40) (by rfl) _ (unhide HBT X7 x7 n7 c7 (unhide HN7) (unhide HO7).dw) ?_
        rintro _ X8 ⟨x8, n8, c8, rfl, h1, h2, h3⟩
        have HN8 := hide h1
        have HO8 : Hid (OwnS X8 W3.heap.size _ x8 c8) := own_down h2 (unhide HB7).size
        have HB8 : Hid (Below W3.heap.size W3 X8) := (unhide HB7).trans (h3.mono (unhide HB7).size)
        have HD8 : Hid (OwnD X8 W3.heap.size _ xp cp) := (unhide HD7).below h3
        clear h1 h2 h3
        refine hK _ _ (fun _ => unhide HB8) ?_
        clear hK K
        simp only [Act.put, List.setIfInBounds_toArray, List.set_cons_zero, List.set_cons_succ]
        refine wpAnyL_one (i := 6) (by kernel_rfl) rfl (by rfl) fun K hK => ?_
        refine wp_val (.slice x8 n8 c8) (by go_simp) (some 11) (by rfl) ?_
        refine hK _ _ (fun _ => unhide HB8) ?_
        clear hK K
        simp only [Act.put, List.setIfInBounds_toArray, List.set_cons_zero, List.set_cons_succ]
        refine wpAnyL_done (by kernel_rfl) ?_ _
        have hn8 : (n8 : Int) ≤ 65 := by have := unhide HBL; have := unhide HN8; omega
        have h64 : (64 : Int) < (n8 : Int) := by have := unhide HG3; have := unhide HN8; omega
        go_wp2_with (first
          | ((with_reducible refine wpList_store_state (by rfl) (.tmp 6) (.tmp 44) (by rfl) (N + 1 + 1) Sv.none 0 0 (by with_unfolding_all rfl) (by with_unfolding_all rfl) Sv.none 0 0 (box_below (unhide HX3) (unhide HB8)) ?_); intro W9 HX9 HE9; simp only [Act.put])
          | fail)
        refine bodyPost_ret (results_cell_tmp rfl _ _ (N + 1 + 1) 31 #[.slice Sv.none.sa 0 Sv.none.sc, .slice Sv.none.ba 0 Sv.none.bc] (0, 0) _ rfl (unhide HX9) stateUnd rfl stateInfo) rfl ?_
        have HB9 : Hid (Below N u W9) := by rw [unhide HE9]; exact belowRow ((unhide HBU).trans ((unhide HB8).mono (by rw [unhide HS3]; omega))) (by omega) _
        exact ⟨Sv.none, 0, 0, rfl, rfl, rfl, OwnT.none _ _, unhide HB9⟩
    · have HE2 := hide (max_big (unhide HO1) (unhide HX12) (by rw [← unhide HSE]; exact g2))
      obtain ⟨rfl, rfl⟩ := h2 (fun h => g2 h.1)
      clear h1 h2 g1 g2
      go_enter Try.func97, Try.ntmps97
      go_wp2_with (first
        | ((with_reducible refine wpList_box_state (by rfl) (.tmp 0) (by rfl) (some 3) (by rfl) N (unhide HN) v n1 m1 (by with_unfolding_all rfl) ?_); intro W1 HX1 HB1 HS1; simp only [Act.put, List.setIfInBounds_toArray, List.set_cons_zero, List.set_cons_succ])
        | ((with_reducible refine wpList_box_sib (by rfl) (.tmp 2) (by rfl) (some 5) (by rfl) (N + 1) (unhide HS1).symm ⟨xa, xn, xg, xv⟩ (by with_unfolding_all rfl) ?_); intro W2 HX2 HB2 HS2; simp only [Act.put, List.setIfInBounds_toArray, List.set_cons_zero, List.set_cons_succ])
        | ((with_reducible refine wpList_alloc_state (by rfl) (by rfl) (some 6) (by rfl) (N + 1 + 1) (unhide HS2).symm ?_); intro W3 HX3 HB3 HS3; simp only [Act.put, List.setIfInBounds_toArray, List.set_cons_zero, List.set_cons_succ]; have HY1 : Hid (W3.heap[N]? = some (stRow v n1 m1)) := ((unhide HB3).block N (by omega)).trans (((unhide HB2).block N (Nat.lt_succ_self _)).trans (unhide HX1)); have HY2 : Hid (W3.heap[N + 1]? = some (sibRow ⟨xa, xn, xg, xv⟩)) := ((unhide HB3).block (N + 1) (Nat.lt_succ_self _)).trans (unhide HX2); have HBU : Hid (Below N u W3) := (unhide HB1).trans (((unhide HB2).mono (Nat.le_succ _)).trans ((unhide HB3).mono (by omega))); have HA3 := hide ((unhide HA).below (unhide HU _ (unhide HBU))); have HB4 := hide ((unhide HB).below (unhide HU _ (unhide HBU))); obtain ⟨x0, x1⟩ := st_cells (unhide HY1); clear HX1 HX2 HB1 HB2 HB3 HS1 HS2)
        | (go_at_call 88; refine (unhide HMX _ _ W3 (unhide HE) (unhide HA3) (unhide HB4)).mono ?_; rintro e W5 ⟨xm, nm, cm, rfl, h1, h2, h3⟩; have HW5 := hide h3; have HN5 := hide h1; have HO5 := hide h2; clear h1 h2 h3 HMX; obtain ⟨y0, y1, y2, y3⟩ := sib_cells (box_below (unhide HY2) (unhide HW5)))
        | (go_at_call 88; have hbe : Below W5.heap.size W5 (W5.alloc (.cells #[.int .u32 (xa : Int), .int .u64 (xn : Int)] 53)) := (Below.refl _ _).alloc (Nat.le_refl _) _; have HA6 := hide ((unhide HW5).trans (hbe.mono (unhide HW5).size)); have hd6 := Dv.one W5 (xa, xn) 53; refine (unhide HM2 _ _ _ xm nm cm W5.heap.size (unhide HE2) (unhide HN5) ⟨((unhide HO5).below hbe).dv, unhide HFM, by have := unhide HML; omega⟩ hd6).mono ?_; rintro e W6 ⟨xp, np, cp, rfl, h1, h2, h3⟩; have HW6 : Hid (Below W3.heap.size W3 W6) := (unhide HA6).trans (h3.mono (unhide HA6).size); have HN6 := hide h1; have HO6 : Hid (OwnD W6 W3.heap.size _ xp cp) := own_down h2 (unhide HA6).size; clear h1 h2 h3 hbe hd6)
        | ((with_reducible refine wpList_store_state (by rfl) (.tmp 6) (.tmp 33) (by rfl) (N + 1 + 1) Sv.none 0 0 (by with_unfolding_all rfl) (by with_unfolding_all rfl) Sv.none 0 0 (box_below (unhide HX3) (unhide HW6)) ?_); intro W9 HX9 HE9; simp only [Act.put])
        | fail)
      refine bodyPost_ret (results_cell_tmp rfl _ _ (N + 1 + 1) 31 #[.slice Sv.none.sa 0 Sv.none.sc, .slice Sv.none.ba 0 Sv.none.bc] (0, 0) _ rfl (unhide HX9) stateUnd rfl stateInfo) rfl ?_
      have HB9 : Hid (Below N u W9) := by rw [unhide HE9]; exact belowRow ((unhide HBU).trans ((unhide HW6).mono (by rw [unhide HS3]; omega))) (by omega) _
      exact ⟨Sv.none, 0, 0, rfl, rfl, rfl, OwnT.none _ _, unhide HB9⟩
  · have HE := hide (max_big (unhide HOS).ok (unhide HOC) g1)
    obtain ⟨rfl, rfl⟩ := h2 (fun h => g1 (Nat.le_trans (unhide HGE) h.1))
    clear h1 h2 g1
    go_enter Try.func97, Try.ntmps97
    go_wp2_with (first
      | ((with_reducible refine wpList_box_state (by rfl) (.tmp 0) (by rfl) (some 3) (by rfl) N (unhide HN) v n1 m1 (by with_unfolding_all rfl) ?_); intro W1 HX1 HB1 HS1; simp only [Act.put, List.setIfInBounds_toArray, List.set_cons_zero, List.set_cons_succ])
      | ((with_reducible refine wpList_box_sib (by rfl) (.tmp 2) (by rfl) (some 5) (by rfl) (N + 1) (unhide HS1).symm ⟨xa, xn, xg, xv⟩ (by with_unfolding_all rfl) ?_); intro W2 HX2 HB2 HS2; simp only [Act.put, List.setIfInBounds_toArray, List.set_cons_zero, List.set_cons_succ])
      | ((with_reducible refine wpList_alloc_state (by rfl) (by rfl) (some 6) (by rfl) (N + 1 + 1) (unhide HS2).symm ?_); intro W3 HX3 HB3 HS3; simp only [Act.put, List.setIfInBounds_toArray, List.set_cons_zero, List.set_cons_succ]; have HY1 : Hid (W3.heap[N]? = some (stRow v n1 m1)) := ((unhide HB3).block N (by omega)).trans (((unhide HB2).block N (Nat.lt_succ_self _)).trans (unhide HX1)); have HY2 : Hid (W3.heap[N + 1]? = some (sibRow ⟨xa, xn, xg, xv⟩)) := ((unhide HB3).block (N + 1) (Nat.lt_succ_self _)).trans (unhide HX2); have HBU : Hid (Below N u W3) := (unhide HB1).trans (((unhide HB2).mono (Nat.le_succ _)).trans ((unhide HB3).mono (by omega))); have HA3 := hide ((unhide HA).below (unhide HU _ (unhide HBU))); have HB4 := hide ((unhide HB).below (unhide HU _ (unhide HBU))); obtain ⟨x0, x1⟩ := st_cells (unhide HY1); clear HX1 HX2 HB1 HB2 HB3 HS1 HS2)
      | (go_at_call 88; refine (unhide HMX _ _ W3 (unhide HE) (unhide HA3) (unhide HB4)).mono ?_; rintro e W5 ⟨xm, nm, cm, rfl, h1, h2, h3⟩; have HW5 := hide h3; have HN5 := hide h1; have HO5 := hide h2; clear h1 h2 h3 HMX; obtain ⟨y0, y1, y2, y3⟩ := sib_cells (box_below (unhide HY2) (unhide HW5)))
      | ((with_reducible refine wpList_store_state (by rfl) (.tmp 6) (.tmp 21) (by rfl) (N + 1 + 1) Sv.none 0 0 (by with_unfolding_all rfl) (by with_unfolding_all rfl) Sv.none 0 0 (box_below (unhide HX3) (unhide HW5)) ?_); intro W9 HX9 HE9; simp only [Act.put])
      | fail)
    refine bodyPost_ret (results_cell_tmp rfl _ _ (N + 1 + 1) 31 #[.slice Sv.none.sa 0 Sv.none.sc, .slice Sv.none.ba 0 Sv.none.bc] (0, 0) _ rfl (unhide HX9) stateUnd rfl stateInfo) rfl ?_
    have HB9 : Hid (Below N u W9) := by rw [unhide HE9]; exact belowRow ((unhide HBU).trans ((unhide HW5).mono (by rw [unhide HS3]; omega))) (by omega) _
    exact ⟨Sv.none, 0, 0, rfl, rfl, rfl, OwnT.none _ _, unhide HB9⟩
end Go.Proofs.Ytkcbljmjhlnjpaa
