/- States: Put. -/
import Derived.Test.YtbahfpcfjhifbaaYm
namespace Go.Proofs.Ytbahfpcfjhifbaa
open Go.RowKit Go.Lib
theorem results_cell2 {P : Program} {fn : Func} {p p2 q : Tmp} {ty ty2 : TypeId} (h : fn.results = #[.cell p ty, .cell p2 ty2, .tmp q]) (tmps : Array Value) (w : World) (g g2 : Nat) (t t2 : TypeId) (cs cs2 : Array Value) (fr fr2 : Nat × Nat) (d d2 : TypeDesc)
    (hp : tmps.getD p undef = .pointer (some ⟨g, 0, none⟩)) (hp2 : tmps.getD p2 undef = .pointer (some ⟨g2, 0, none⟩)) (hg : w.heap[g]? = some (.cells cs t fr)) (hg2 : w.heap[g2]? = some (.cells cs2 t2 fr2))
    (hu : P.underlying ty = some d) (hu2 : P.underlying ty2 = some d2) (hd : (match d with | .struct _ | .array _ _ => true | _ => false) = true) (hd2 : (match d2 with | .struct _ | .array _ _ => true | _ => false) = true) (hi : (P.info? ty).map (·.size) = some cs.size) (hi2 : (P.info? ty2).map (·.size) = some cs2.size) :
    (results fn tmps).run P w = .ok (.tuple #[.agg cs, .agg cs2, tmps.getD q undef]) w := by
  have hp' : tmps[p]?.getD undef = .pointer (some ⟨g, 0, none⟩) := by simpa using hp
  have hp2' : tmps[p2]?.getD undef = .pointer (some ⟨g2, 0, none⟩) := by simpa using hp2
  simp [results, h, hp', hp2', asAddr, run_loadVar_row w g t ty cs fr d hg hu hd hi, run_loadVar_row w g2 t2 ty2 cs2 fr2 d2 hg2 hu2 hd2 hi2]
/-- a put's sibling -/
noncomputable def putX (s : St) (ctx : List (Nat × Nat)) (x : Nat) (val : ByteArray) (gone : Bool) : Sb := ⟨x, topc s.seen ctx x + 1, gone, val⟩
open Classical in
/-- what Put answers -/
noncomputable def putV (s : St) (ctx : List (Nat × Nat)) (x : Nat) (val : ByteArray) (gone : Bool) : St × (Nat × Nat) × Int :=
  if wrongE s ctx gone val ≠ 0 then (St.none, (0, 0), wrongE s ctx gone val) else if topc s.seen ctx x = 1099511627776 then (St.none, (0, 0), 101)
  else if (putS s ctx (putX s ctx x val gone)).seen.length ≤ 64 ∧ (putS s ctx (putX s ctx x val gone)).sibs.length ≤ 64 then (putS s ctx (putX s ctx x val gone), (x, topc s.seen ctx x + 1), 0) else (St.none, (0, 0), 82)
theorem wrong_zero {s : St} {ctx : List (Nat × Nat)} {g : Bool} {v : ByteArray} : wrongE s ctx g v = 0 ↔ SOk s ∧ V.Ok ctx ∧ mayB g v = true := by
  unfold wrongE
  by_cases h1 : SOk s
  · by_cases h2 : V.Ok ctx
    · rw [if_neg (fun h => h h1), if_neg (fun h => h h2)]
      cases mayB g v <;> simp [h1, h2]
    · rw [if_neg (fun h => h h1), if_pos h2]; simp [h2]
  · rw [if_pos h1]; simp [h1]
theorem wp_store_state {o : Oper} {a : Act} {w : World} {K : Act → World → Prop} {Q : Exit → Act → World → Prop} (x y : Operand) (ho : o.op = .store 25 x y) (hd : o.dst = none) (g : Nat) (v : Sv) (n m : Nat) (hx : a.eval x = .pointer (some ⟨g, 0, none⟩)) (hy : a.eval y = v.v n m)
    (v0 : Sv) (n0 m0 : Nat) (hg : w.heap[g]? = some (stRow v0 n0 m0)) (h : K a (w.setRow g #[.slice v.sa n v.sc, .slice v.ba m v.bc])) : o.wp Try.prog a w K Q :=
  wp_store_row 25 x y ho g #[.slice v.sa n v.sc, .slice v.ba m v.bc] hx hy 25 _ hg stateInfo rfl (state_one _ _ _ _ _ _) (by rw [hd]; exact h)
theorem wp_store_dotrow {o : Oper} {a : Act} {w : World} {K : Act → World → Prop} {Q : Exit → Act → World → Prop} (x y : Operand) (ho : o.op = .store 43 x y) (hd : o.dst = none) (g : Nat) (q p : Int) (hx : a.eval x = .pointer (some ⟨g, 0, none⟩)) (hy : a.eval y = .agg #[.int .u32 q, .int .u64 p])
    {q0 p0 : Value} (hg : w.heap[g]? = some (.cells #[q0, p0] 43 (0, 0))) (h : K a (w.setRow g #[.int .u32 q, .int .u64 p])) : o.wp Try.prog a w K Q :=
  wp_store_row 43 x y ho g #[.int .u32 q, .int .u64 p] hx hy 43 _ hg dotInfo rfl (dot_one _ _) (by rw [hd]; exact h)
set_option maxRecDepth 100000 in
set_option maxHeartbeats 8000000 in
theorem dPut (s : St) (v : Sv) (ctx : List (Nat × Nat)) (xc : Option Addr) (cc nc : Nat) (ec : nc = ctx.length) (x : Nat) (hx : x < 4294967296) (val : ByteArray) (hval : val.size ≤ 140737488355328) (gone : Bool) (u : World) (hs : SAt u s v) (hc : Da u ctx xc cc)
    (J : St) (d : Nat × Nat) (r : Int) (hP : putV s ctx x val gone = (J, d, r)) :
    Calls Try.prog 29 #[v.v s.seen.length s.sibs.length, .slice xc nc cc, .int .u32 (x : Int), .string val, .bool gone] u fun e u' => ∃ y n m, e = .returned (.tuple #[Sv.v y n m, .agg #[.int .u32 (d.1 : Int), .int .u64 (d.2 : Int)], .int .i64 r]) ∧ n = J.seen.length ∧ m = J.sibs.length ∧ OwnT u' u.heap.size J y ∧ Below u.heap.size u u' := by
  have hmix : Try.prog.follows .mixedOrders = true := by kernel_rfl
  obtain ⟨N, hN⟩ : ∃ N, N = u.heap.size := ⟨_, rfl⟩
  have HN := hide hN
  have HA := hide hs
  have HB := hide hc
  rw [← hN]
  obtain ⟨n1, hn1⟩ : ∃ n, n = s.seen.length := ⟨_, rfl⟩
  obtain ⟨m1, hm1⟩ : ∃ n, n = s.sibs.length := ⟨_, rfl⟩
  rw [← hn1, ← hm1]
  have HWR : Hid (∀ W : World, SAt W s v → Da W ctx xc cc → Calls Try.prog 58 #[v.v n1 m1, .slice xc nc cc, .agg #[.bool gone, .string val]] W fun e W' => e = .returned (.int .i64 (wrongE s ctx gone val)) ∧ Below W.heap.size W W') := fun W h1 h2 => by rw [hn1, hm1]; exact dWrong s v ctx xc cc nc ec gone val hval W h1 h2
  have HNX : Hid (∀ (W : World) (d : Nat × Nat) (r : Int), SOk s → V.Ok ctx → SAt W s v → Da W ctx xc cc → (topc s.seen ctx x = 1099511627776 → d = (0, 0) ∧ r = 101) → (topc s.seen ctx x ≠ 1099511627776 → d = (x, topc s.seen ctx x + 1) ∧ r = 0) → Calls Try.prog 59 #[.slice v.sa n1 v.sc, .slice xc nc cc, .int .u32 (x : Int)] W fun e W' => e = .returned (.tuple #[.agg #[.int .u32 (d.1 : Int), .int .u64 (d.2 : Int)], .int .i64 r]) ∧ Below W.heap.size W W') := fun W d r os oc h1 h2 h3 h4 => dNext s.seen ctx v.sa xc v.sc cc n1 nc x hn1 ec W h1.seen h2 os.ok oc d r h3 h4
  have HBH : Hid (∀ (W : World) (t : Nat) (J : St) (r : Int), t = topc s.seen ctx x + 1 → t ≤ 1099511627776 → SOk s → V.Ok ctx → SAt W s v → Da W ctx xc cc → ((putS s ctx (putX s ctx x val gone)).seen.length ≤ 64 ∧ (putS s ctx (putX s ctx x val gone)).sibs.length ≤ 64 → J = putS s ctx (putX s ctx x val gone) ∧ r = 0) → (¬ ((putS s ctx (putX s ctx x val gone)).seen.length ≤ 64 ∧ (putS s ctx (putX s ctx x val gone)).sibs.length ≤ 64) → J = St.none ∧ r = 82) →
      Calls Try.prog 60 #[v.v n1 m1, .slice xc nc cc, .agg #[.int .u32 (x : Int), .int .u64 (t : Int), .bool gone, .string val]] W fun e u' => ∃ y n m, e = .returned (.tuple #[Sv.v y n m, .int .i64 r]) ∧ n = J.seen.length ∧ m = J.sibs.length ∧ OwnT u' W.heap.size J y ∧ Below W.heap.size W u') := fun W t J r et ht os oc h1 h2 h3 h4 => by
    rw [hn1, hm1]
    have e : putX s ctx x val gone = ⟨x, t, gone, val⟩ := by unfold putX; rw [et]
    rw [e] at h3 h4
    exact dBehind s v ctx xc cc nc ec ⟨x, t, gone, val⟩ W h1 h2 os oc ⟨hx, by show t < _; omega, hval⟩ (by show 1 ≤ t; omega) ht J r h3 h4
  have HU : Hid (∀ W : World, Below N u W → Below u.heap.size u W) := fun W hW => by rw [← unhide HN]; exact hW
  clear hN hs hc hn1 hm1 ec hval
  have hPe : (putV s ctx x val gone) = (J, d, r) := hP
  unfold putV at hP
  by_cases hw : wrongE s ctx gone val = 0
  · rw [if_neg (fun h => h hw)] at hP
    rw [hw] at HWR
    obtain ⟨os, oc, _⟩ := wrong_zero.1 hw
    have HOS := hide os
    have HOC := hide oc
    have htl : topc s.seen ctx x ≤ 1099511627776 := by have := V.cnt_le os.ok.pos x; have := V.cnt_le oc.pos x; unfold topc; omega
    by_cases ht : topc s.seen ctx x = 1099511627776
    · rw [if_pos ht] at hP
      cases hP
      have HT1 : Hid (topc s.seen ctx x = 1099511627776 → ((0, 0) : Nat × Nat) = (0, 0) ∧ (101 : Int) = 101) := fun _ => ⟨rfl, rfl⟩
      have HT2 : Hid (topc s.seen ctx x ≠ 1099511627776 → ((0, 0) : Nat × Nat) = (x, topc s.seen ctx x + 1) ∧ (101 : Int) = 0) := fun h => absurd ht h
      have HNX1 := hide (fun (W : World) h1 h2 => unhide HNX W (0, 0) 101 (unhide HOS) (unhide HOC) h1 h2 (unhide HT1) (unhide HT2))
      clear hPe hw os oc htl ht HBH HNX HT1 HT2
      go_enter Try.func29, Try.ntmps29
      go_wp2_with (first
        | ((with_reducible refine wpList_box_state (by rfl) (.tmp 0) (by rfl) (some 5) (by rfl) N (unhide HN) v n1 m1 (by with_unfolding_all rfl) ?_); intro W1 HX1 HB1 HS1; simp only [Act.put, List.setIfInBounds_toArray, List.set_cons_zero, List.set_cons_succ])
        | ((with_reducible refine wpList_alloc_state (by rfl) (by rfl) (some 10) (by rfl) (N + 1) (unhide HS1).symm ?_); intro W2 HX2 HB2 HS2; simp only [Act.put, List.setIfInBounds_toArray, List.set_cons_zero, List.set_cons_succ])
        | ((with_reducible refine wpList_alloc_dot (by rfl) (by rfl) (some 11) (by rfl) (N + 1 + 1) (unhide HS2).symm ?_); intro W3 HX3 HB3 HS3; simp only [Act.put, List.setIfInBounds_toArray, List.set_cons_zero, List.set_cons_succ]; have HY1 : Hid (W3.heap[N]? = some (stRow v n1 m1)) := ((unhide HB3).block N (by omega)).trans (((unhide HB2).block N (Nat.lt_succ_self _)).trans (unhide HX1)); have HY2 : Hid (W3.heap[N + 1]? = some (stRow Sv.none 0 0)) := ((unhide HB3).block (N + 1) (Nat.lt_succ_self _)).trans (unhide HX2); have HBU : Hid (Below N u W3) := (unhide HB1).trans (((unhide HB2).mono (Nat.le_succ _)).trans ((unhide HB3).mono (by omega))); have HA3 := hide ((unhide HA).below (unhide HU _ (unhide HBU))); have HB4 := hide ((unhide HB).below (unhide HU _ (unhide HBU))); obtain ⟨x0, x1⟩ := st_cells (unhide HY1); clear HX1 HX2 HB1 HB2 HB3 HS1 HS2)
        | (go_at_call 58; refine (unhide HWR W3 (unhide HA3) (unhide HB4)).mono ?_; rintro e W5 ⟨rfl, hb⟩; have HW5 := hide hb; clear hb; obtain ⟨x0, x1⟩ := st_cells (box_below (unhide HY1) (unhide HW5)))
        | (go_at_call 59; refine (unhide HNX1 W5 ((unhide HA3).below (unhide HW5)) ((unhide HB4).below (unhide HW5))).mono ?_; rintro e W6 ⟨rfl, hb⟩; have HW6 : Hid (Below W3.heap.size W3 W6) := (unhide HW5).trans (hb.mono (unhide HW5).size); clear hb; obtain ⟨N6, hN6⟩ : ∃ k, k = W6.heap.size := ⟨_, rfl⟩; have HN6 := hide hN6; clear hN6)
        | ((with_reducible refine wpList_alloc_dot (by rfl) (by rfl) (some 14) (by rfl) N6 (unhide HN6) ?_); intro W7 HX7 HB7 HS7; simp only [Act.put, List.setIfInBounds_toArray, List.set_cons_zero, List.set_cons_succ])
        | ((with_reducible refine wpList_store_dot (by rfl) (.tmp 14) (.tmp 34) (by rfl) N6 0 0 (by with_unfolding_all rfl) (by with_unfolding_all rfl) (unhide HX7) ?_); intro W8 HX8 HE8; simp only [Act.put]; have HB8 : Hid (Below W6.heap.size W6 W8) := (by rw [unhide HE8, ← unhide HN6]; exact belowRow (unhide HB7) (Nat.le_refl _) _); have HW8 : Hid (Below W3.heap.size W3 W8) := (unhide HW6).trans ((unhide HB8).mono (unhide HW6).size); obtain ⟨x0, x1⟩ := st_cells (box_below (unhide HY1) (unhide HW8)); obtain ⟨y0, y1⟩ := box2 (unhide HX8))
        | ((with_reducible refine wpList_store_state (by rfl) (.tmp 10) (.tmp 38) (by rfl) (N + 1) Sv.none 0 0 (by with_unfolding_all rfl) (by with_unfolding_all rfl) Sv.none 0 0 (box_below (unhide HY2) (unhide HW8)) ?_); intro WC HXC HEC; simp only [Act.put]; have HQC : Hid (WC.heap[N + 1 + 1]? = some (.cells #[.int .u32 0, .int .u64 0] 43 (0, 0))) := (by rw [unhide HEC]; exact (heapRow_other _ _ _ _ (by omega)).trans (box_below (unhide HX3) (unhide HW8))))
        | ((with_reducible refine wpList_store_dot (by rfl) (.tmp 11) (.tmp 39) (by rfl) (N + 1 + 1) 0 0 (by with_unfolding_all rfl) (by with_unfolding_all rfl) (unhide HQC) ?_); intro WD HXD HED; simp only [Act.put]; have HQD : Hid (WD.heap[N + 1]? = some (stRow Sv.none 0 0)) := (by rw [unhide HED]; exact (heapRow_other _ _ _ _ (by omega)).trans (unhide HXC)))
        | fail)
      have HBE : Hid (Below N u WD) := by rw [unhide HED, unhide HEC]; exact belowRow (belowRow ((unhide HBU).trans ((unhide HW8).mono (by rw [unhide HS3]; omega))) (by omega) _) (by omega) _
      refine bodyPost_ret (results_cell2 rfl _ _ (N + 1) (N + 1 + 1) 25 43 #[.slice Sv.none.sa 0 Sv.none.sc, .slice Sv.none.ba 0 Sv.none.bc] #[.int .u32 0, .int .u64 0] (0, 0) (0, 0) _ _ rfl rfl (unhide HQD) (unhide HXD) stateUnd dotUnd rfl rfl stateInfo dotInfo) rfl ?_
      exact ⟨Sv.none, 0, 0, rfl, rfl, rfl, OwnT.none _ _, unhide HBE⟩
    · rw [if_neg ht] at hP
      obtain ⟨t1, ht1⟩ : ∃ t, t = topc s.seen ctx x + 1 := ⟨_, rfl⟩
      have HTE := hide ht1
      have HTL : Hid (t1 ≤ 1099511627776) := hide (by omega)
      have HT1 : Hid (topc s.seen ctx x = 1099511627776 → ((x, t1) : Nat × Nat) = (0, 0) ∧ (0 : Int) = 101) := fun h => absurd h ht
      have HT2 : Hid (topc s.seen ctx x ≠ 1099511627776 → ((x, t1) : Nat × Nat) = (x, topc s.seen ctx x + 1) ∧ (0 : Int) = 0) := fun _ => ⟨by rw [unhide HTE], rfl⟩
      rw [← ht1] at hP
      have HNX1 := hide (fun (W : World) h1 h2 => unhide HNX W (x, t1) 0 (unhide HOS) (unhide HOC) h1 h2 (unhide HT1) (unhide HT2))
      clear hPe hw os oc htl ht ht1 HNX HT1 HT2
      by_cases hf : (putS s ctx (putX s ctx x val gone)).seen.length ≤ 64 ∧ (putS s ctx (putX s ctx x val gone)).sibs.length ≤ 64
      · rw [if_pos hf] at hP
        cases hP
        obtain ⟨J0, hJ0⟩ : ∃ J, J = putS s ctx (putX s ctx x val gone) := ⟨_, rfl⟩
        have HP1 : Hid ((putS s ctx (putX s ctx x val gone)).seen.length ≤ 64 ∧ (putS s ctx (putX s ctx x val gone)).sibs.length ≤ 64 → J0 = putS s ctx (putX s ctx x val gone) ∧ (0 : Int) = 0) := fun _ => ⟨hJ0, rfl⟩
        have HP2 : Hid (¬ ((putS s ctx (putX s ctx x val gone)).seen.length ≤ 64 ∧ (putS s ctx (putX s ctx x val gone)).sibs.length ≤ 64) → J0 = St.none ∧ (0 : Int) = 82) := fun h => absurd hf h
        rw [← hJ0]
        have HBH1 := hide (fun (W : World) h1 h2 => unhide HBH W t1 J0 0 (unhide HTE) (unhide HTL) (unhide HOS) (unhide HOC) h1 h2 (unhide HP1) (unhide HP2))
        clear hf hJ0 HBH HP1 HP2
        go_enter Try.func29, Try.ntmps29
        go_wp2_with (first
          | ((with_reducible refine wpList_box_state (by rfl) (.tmp 0) (by rfl) (some 5) (by rfl) N (unhide HN) v n1 m1 (by with_unfolding_all rfl) ?_); intro W1 HX1 HB1 HS1; simp only [Act.put, List.setIfInBounds_toArray, List.set_cons_zero, List.set_cons_succ])
          | ((with_reducible refine wpList_alloc_state (by rfl) (by rfl) (some 10) (by rfl) (N + 1) (unhide HS1).symm ?_); intro W2 HX2 HB2 HS2; simp only [Act.put, List.setIfInBounds_toArray, List.set_cons_zero, List.set_cons_succ])
          | ((with_reducible refine wpList_alloc_dot (by rfl) (by rfl) (some 11) (by rfl) (N + 1 + 1) (unhide HS2).symm ?_); intro W3 HX3 HB3 HS3; simp only [Act.put, List.setIfInBounds_toArray, List.set_cons_zero, List.set_cons_succ]; have HY1 : Hid (W3.heap[N]? = some (stRow v n1 m1)) := ((unhide HB3).block N (by omega)).trans (((unhide HB2).block N (Nat.lt_succ_self _)).trans (unhide HX1)); have HY2 : Hid (W3.heap[N + 1]? = some (stRow Sv.none 0 0)) := ((unhide HB3).block (N + 1) (Nat.lt_succ_self _)).trans (unhide HX2); have HBU : Hid (Below N u W3) := (unhide HB1).trans (((unhide HB2).mono (Nat.le_succ _)).trans ((unhide HB3).mono (by omega))); have HA3 := hide ((unhide HA).below (unhide HU _ (unhide HBU))); have HB4 := hide ((unhide HB).below (unhide HU _ (unhide HBU))); obtain ⟨x0, x1⟩ := st_cells (unhide HY1); clear HX1 HX2 HB1 HB2 HB3 HS1 HS2)
          | (go_at_call 58; refine (unhide HWR W3 (unhide HA3) (unhide HB4)).mono ?_; rintro e W5 ⟨rfl, hb⟩; have HW5 := hide hb; clear hb; obtain ⟨x0, x1⟩ := st_cells (box_below (unhide HY1) (unhide HW5)))
          | (go_at_call 59; refine (unhide HNX1 W5 ((unhide HA3).below (unhide HW5)) ((unhide HB4).below (unhide HW5))).mono ?_; rintro e W6 ⟨rfl, hb⟩; have HW6 : Hid (Below W3.heap.size W3 W6) := (unhide HW5).trans (hb.mono (unhide HW5).size); clear hb; obtain ⟨N6, hN6⟩ : ∃ k, k = W6.heap.size := ⟨_, rfl⟩; have HN6 := hide hN6; clear hN6)
          | ((with_reducible refine wpList_alloc_dot (by rfl) (by rfl) (some 14) (by rfl) N6 (unhide HN6) ?_); intro W7 HX7 HB7 HS7; simp only [Act.put, List.setIfInBounds_toArray, List.set_cons_zero, List.set_cons_succ])
          | ((with_reducible refine wpList_store_dot (by rfl) (.tmp 14) (.tmp 34) (by rfl) N6 (x : Int) (t1 : Int) (by with_unfolding_all rfl) (by with_unfolding_all rfl) (unhide HX7) ?_); intro W8 HX8 HE8; simp only [Act.put]; have HB8 : Hid (Below W6.heap.size W6 W8) := (by rw [unhide HE8, ← unhide HN6]; exact belowRow (unhide HB7) (Nat.le_refl _) _); have HW8 : Hid (Below W3.heap.size W3 W8) := (unhide HW6).trans ((unhide HB8).mono (unhide HW6).size); obtain ⟨x0, x1⟩ := st_cells (box_below (unhide HY1) (unhide HW8)); obtain ⟨y0, y1⟩ := box2 (unhide HX8))
          | (go_at_call 60; refine (unhide HBH1 W8 ((unhide HA3).below (unhide HW8)) ((unhide HB4).below (unhide HW8))).mono ?_; rintro e W9 ⟨xs, ns, ms, rfl, h1, h2, h3, h4⟩; have HW9 : Hid (Below W3.heap.size W3 W9) := (unhide HW8).trans (h4.mono (unhide HW8).size); have HX9 := hide (box_below (unhide HX8) h4); have HN9 := hide h1; have HM9 := hide h2; have HO9 : Hid (OwnT W9 W3.heap.size J0 xs) := h3.down (unhide HW8).size; clear h1 h2 h3 h4; obtain ⟨N9, hN9⟩ : ∃ k, k = W9.heap.size := ⟨_, rfl⟩; have HNN := hide hN9; clear hN9)
          | ((with_reducible refine wpList_alloc_state (by rfl) (by rfl) (some 16) (by rfl) N9 (unhide HNN) ?_); intro WA HXA HBA HSA; simp only [Act.put, List.setIfInBounds_toArray, List.set_cons_zero, List.set_cons_succ])
          | ((with_reducible refine wpList_store_state (by rfl) (.tmp 16) (.tmp 49) (by rfl) N9 xs ns ms (by with_unfolding_all rfl) (by with_unfolding_all rfl) Sv.none 0 0 (unhide HXA) ?_); intro WB HXB HEB; simp only [Act.put]; have HBB : Hid (Below W9.heap.size W9 WB) := (by rw [unhide HEB, ← unhide HNN]; exact belowRow (unhide HBA) (Nat.le_refl _) _); have HWB : Hid (Below W3.heap.size W3 WB) := (unhide HW9).trans ((unhide HBB).mono (unhide HW9).size))
          | fail)
        have HN3 : Hid (N + 1 + 1 < W3.heap.size) := by rw [unhide HS3]; exact Nat.lt_succ_self _
        have HR6 : Hid (N + 1 + 1 < N6) := by rw [unhide HN6]; exact Nat.lt_of_lt_of_le (unhide HN3) (unhide HW6).size
        have HR9 : Hid (N + 1 + 1 < N9) := by rw [unhide HNN]; exact Nat.lt_of_lt_of_le (unhide HN3) (unhide HW9).size
        have HXX : Hid (WB.drew.heap[N9]? = some (stRow xs ns ms) ∧ WB.drew.heap[N6]? = some (.cells #[.int .u32 (x : Int), .int .u64 (t1 : Int)] 43 (0, 0))) := ⟨unhide HXB, box_below (unhide HX9) (belowDrew (unhide HBB))⟩
        have HZ2 : Hid (WB.drew.heap[N + 1]? = some (stRow Sv.none 0 0)) := box_below (unhide HY2) (belowDrew (unhide HWB))
        have HZ3 : Hid (WB.drew.heap[N + 1 + 1]? = some (.cells #[.int .u32 0, .int .u64 0] 43 (0, 0))) := box_below (unhide HX3) (belowDrew (unhide HWB))
        have HZB : Hid (Below W3.heap.size W3 WB.drew) := belowDrew (unhide HWB)
        have HZO : Hid (OwnT WB.drew W3.heap.size J0 xs) := (unhide HO9).below (belowDrew (unhide HBB))
        refine wp_region_last (fun W => W.heap[N9]? = some (stRow xs ns ms) ∧ W.heap[N6]? = some (.cells #[.int .u32 (x : Int), .int .u64 (t1 : Int)] 43 (0, 0))) 4 hmix (unhide HXX) fun hS => ?_
        generalize WB.drew = Z0 at hS HXX HZ2 HZ3 HZB HZO ⊢
        clear HXX
        refine wpAnyL_take 0 56 (xs.v ns ms) [] rfl rfl (by kernel_rfl) (by kernel_rfl) (by kernel_rfl) (by kernel_rfl) (by kernel_rfl) (fun _ _ _ h => h) (by rfl) (fun W hW => by obtain ⟨e1, e2⟩ := st_cells hW.1; unfold Sv.v; go_simp) hS ?_
        simp only [Act.put, List.setIfInBounds_toArray, List.set_cons_zero, List.set_cons_succ]
        refine wpAnyL_take 1 57 (.agg #[.int .u32 (x : Int), .int .u64 (t1 : Int)]) [] rfl rfl (by kernel_rfl) (by kernel_rfl) (by kernel_rfl) (by kernel_rfl) (by kernel_rfl) (fun _ _ _ h => h) (by rfl) (fun W hW => by obtain ⟨e1, e2⟩ := box2 hW.2; go_simp) hS ?_
        simp only [Act.put, List.setIfInBounds_toArray, List.set_cons_zero, List.set_cons_succ]
        refine wpAnyL_one (i := 2) (by kernel_rfl) rfl (by rfl) fun K hK => ?_
        refine wp_store_state (.tmp 10) (.tmp 56) (by rfl) (by rfl) (N + 1) xs ns ms (by with_unfolding_all rfl) (by with_unfolding_all rfl) Sv.none 0 0 (unhide HZ2) ?_
        obtain ⟨Z1, hZ1⟩ : ∃ Z, Z = Z0.setRow (N + 1) #[.slice xs.sa ns xs.sc, .slice xs.ba ms xs.bc] := ⟨_, rfl⟩
        have HQ1 : Hid (Z1.heap[N + 1]? = some (stRow xs ns ms)) := by rw [hZ1]; exact heapRow_same (unhide HZ2) _
        have HQ2 : Hid (Z1.heap[N + 1 + 1]? = some (.cells #[.int .u32 0, .int .u64 0] 43 (0, 0))) := by rw [hZ1]; exact (heapRow_other _ _ _ _ (by omega)).trans (unhide HZ3)
        have HS1 : Hid (Z1.heap[N9]? = some (stRow xs ns ms) ∧ Z1.heap[N6]? = some (.cells #[.int .u32 (x : Int), .int .u64 (t1 : Int)] 43 (0, 0))) := by rw [hZ1]; exact ⟨(heapRow_other _ _ _ _ (by have := unhide HR9; omega)).trans hS.1, (heapRow_other _ _ _ _ (by have := unhide HR6; omega)).trans hS.2⟩
        have HEZ := hide hZ1
        rw [← hZ1]
        clear hZ1
        refine hK _ _ (fun _ => unhide HS1) ?_
        clear hK K
        refine wpAnyL_one (i := 3) (by kernel_rfl) rfl (by rfl) fun K hK => ?_
        refine wp_store_dotrow (.tmp 11) (.tmp 57) (by rfl) (by rfl) (N + 1 + 1) (x : Int) (t1 : Int) (by with_unfolding_all rfl) (by with_unfolding_all rfl) (unhide HQ2) ?_
        obtain ⟨Z2, hZ2⟩ : ∃ Z, Z = Z1.setRow (N + 1 + 1) #[.int .u32 (x : Int), .int .u64 (t1 : Int)] := ⟨_, rfl⟩
        have HQD : Hid (Z2.heap[N + 1]? = some (stRow xs ns ms)) := by rw [hZ2]; exact (heapRow_other _ _ _ _ (by omega)).trans (unhide HQ1)
        have HXD : Hid (Z2.heap[N + 1 + 1]? = some (.cells #[.int .u32 (x : Int), .int .u64 (t1 : Int)] 43 (0, 0))) := by rw [hZ2]; exact heapRow_same (unhide HQ2) _
        have HS2 : Hid (Z2.heap[N9]? = some (stRow xs ns ms) ∧ Z2.heap[N6]? = some (.cells #[.int .u32 (x : Int), .int .u64 (t1 : Int)] 43 (0, 0))) := by rw [hZ2]; exact ⟨(heapRow_other _ _ _ _ (by have := unhide HR9; omega)).trans (unhide HS1).1, (heapRow_other _ _ _ _ (by have := unhide HR6; omega)).trans (unhide HS1).2⟩
        have HEY := hide hZ2
        rw [← hZ2]
        clear hZ2
        refine hK _ _ (fun _ => unhide HS2) ?_
        clear hK K
        refine wpAnyL_one (i := 4) (by kernel_rfl) rfl (by rfl) fun K hK => ?_
        refine wp_val (.int .i64 0) (by go_simp) (some 12) (by rfl) ?_
        refine hK _ _ (fun _ => unhide HS2) ?_
        clear hK K
        simp only [Act.put, List.setIfInBounds_toArray, List.set_cons_zero, List.set_cons_succ]
        refine wpAnyL_done (by kernel_rfl) ?_ _
        have HBE : Hid (Below N u Z2) := by rw [unhide HEY, unhide HEZ]; exact belowRow (belowRow ((unhide HBU).trans ((unhide HZB).mono (by have := unhide HN3; omega))) (by omega) _) (by omega) _
        have HOE : Hid (OwnT Z2 N J0 xs) := by
          rw [unhide HEY, unhide HEZ]
          have hlt := unhide HN3
          have h1 := unhide HZO
          refine ⟨own_keep (own_down h1.seen (by omega)) fun g hg => ?_, own_keep (own_down h1.sibs (by omega)) fun g hg => ?_⟩
          · have := (World.ownsRow.lt h1.seen g hg).1
            exact (heapRow_other _ _ _ _ (by omega)).trans (heapRow_other _ _ _ _ (by omega))
          · have := (World.ownsRow.lt h1.sibs g hg).1
            exact (heapRow_other _ _ _ _ (by omega)).trans (heapRow_other _ _ _ _ (by omega))
        go_wp2
        refine bodyPost_ret (results_cell2 rfl _ _ (N + 1) (N + 1 + 1) 25 43 #[.slice xs.sa ns xs.sc, .slice xs.ba ms xs.bc] #[.int .u32 (x : Int), .int .u64 (t1 : Int)] (0, 0) (0, 0) _ _ rfl rfl (unhide HQD) (unhide HXD) stateUnd dotUnd rfl rfl stateInfo dotInfo) rfl ?_
        exact ⟨xs, ns, ms, rfl, unhide HN9, unhide HM9, unhide HOE, unhide HBE⟩
      · rw [if_neg hf] at hP
        cases hP
        have HP1 : Hid ((putS s ctx (putX s ctx x val gone)).seen.length ≤ 64 ∧ (putS s ctx (putX s ctx x val gone)).sibs.length ≤ 64 → St.none = putS s ctx (putX s ctx x val gone) ∧ (82 : Int) = 0) := fun h => absurd h hf
        have HP2 : Hid (¬ ((putS s ctx (putX s ctx x val gone)).seen.length ≤ 64 ∧ (putS s ctx (putX s ctx x val gone)).sibs.length ≤ 64) → St.none = St.none ∧ (82 : Int) = 82) := fun _ => ⟨rfl, rfl⟩
        have HBH1 := hide (fun (W : World) h1 h2 => unhide HBH W t1 St.none 82 (unhide HTE) (unhide HTL) (unhide HOS) (unhide HOC) h1 h2 (unhide HP1) (unhide HP2))
        clear hf HBH HP1 HP2
        go_enter Try.func29, Try.ntmps29
        go_wp2_with (first
          | ((with_reducible refine wpList_box_state (by rfl) (.tmp 0) (by rfl) (some 5) (by rfl) N (unhide HN) v n1 m1 (by with_unfolding_all rfl) ?_); intro W1 HX1 HB1 HS1; simp only [Act.put, List.setIfInBounds_toArray, List.set_cons_zero, List.set_cons_succ])
          | ((with_reducible refine wpList_alloc_state (by rfl) (by rfl) (some 10) (by rfl) (N + 1) (unhide HS1).symm ?_); intro W2 HX2 HB2 HS2; simp only [Act.put, List.setIfInBounds_toArray, List.set_cons_zero, List.set_cons_succ])
          | ((with_reducible refine wpList_alloc_dot (by rfl) (by rfl) (some 11) (by rfl) (N + 1 + 1) (unhide HS2).symm ?_); intro W3 HX3 HB3 HS3; simp only [Act.put, List.setIfInBounds_toArray, List.set_cons_zero, List.set_cons_succ]; have HY1 : Hid (W3.heap[N]? = some (stRow v n1 m1)) := ((unhide HB3).block N (by omega)).trans (((unhide HB2).block N (Nat.lt_succ_self _)).trans (unhide HX1)); have HY2 : Hid (W3.heap[N + 1]? = some (stRow Sv.none 0 0)) := ((unhide HB3).block (N + 1) (Nat.lt_succ_self _)).trans (unhide HX2); have HBU : Hid (Below N u W3) := (unhide HB1).trans (((unhide HB2).mono (Nat.le_succ _)).trans ((unhide HB3).mono (by omega))); have HA3 := hide ((unhide HA).below (unhide HU _ (unhide HBU))); have HB4 := hide ((unhide HB).below (unhide HU _ (unhide HBU))); obtain ⟨x0, x1⟩ := st_cells (unhide HY1); clear HX1 HX2 HB1 HB2 HB3 HS1 HS2)
          | (go_at_call 58; refine (unhide HWR W3 (unhide HA3) (unhide HB4)).mono ?_; rintro e W5 ⟨rfl, hb⟩; have HW5 := hide hb; clear hb; obtain ⟨x0, x1⟩ := st_cells (box_below (unhide HY1) (unhide HW5)))
          | (go_at_call 59; refine (unhide HNX1 W5 ((unhide HA3).below (unhide HW5)) ((unhide HB4).below (unhide HW5))).mono ?_; rintro e W6 ⟨rfl, hb⟩; have HW6 : Hid (Below W3.heap.size W3 W6) := (unhide HW5).trans (hb.mono (unhide HW5).size); clear hb; obtain ⟨N6, hN6⟩ : ∃ k, k = W6.heap.size := ⟨_, rfl⟩; have HN6 := hide hN6; clear hN6)
          | ((with_reducible refine wpList_alloc_dot (by rfl) (by rfl) (some 14) (by rfl) N6 (unhide HN6) ?_); intro W7 HX7 HB7 HS7; simp only [Act.put, List.setIfInBounds_toArray, List.set_cons_zero, List.set_cons_succ])
          | ((with_reducible refine wpList_store_dot (by rfl) (.tmp 14) (.tmp 34) (by rfl) N6 (x : Int) (t1 : Int) (by with_unfolding_all rfl) (by with_unfolding_all rfl) (unhide HX7) ?_); intro W8 HX8 HE8; simp only [Act.put]; have HB8 : Hid (Below W6.heap.size W6 W8) := (by rw [unhide HE8, ← unhide HN6]; exact belowRow (unhide HB7) (Nat.le_refl _) _); have HW8 : Hid (Below W3.heap.size W3 W8) := (unhide HW6).trans ((unhide HB8).mono (unhide HW6).size); obtain ⟨x0, x1⟩ := st_cells (box_below (unhide HY1) (unhide HW8)); obtain ⟨y0, y1⟩ := box2 (unhide HX8))
          | (go_at_call 60; refine (unhide HBH1 W8 ((unhide HA3).below (unhide HW8)) ((unhide HB4).below (unhide HW8))).mono ?_; rintro e W9 ⟨xs, ns, ms, rfl, h1, h2, h3, h4⟩; have HW9 : Hid (Below W3.heap.size W3 W9) := (unhide HW8).trans (h4.mono (unhide HW8).size); have HX9 := hide (box_below (unhide HX8) h4); have HN9 := hide h1; have HM9 := hide h2; have HO9 : Hid (OwnT W9 W3.heap.size St.none xs) := h3.down (unhide HW8).size; clear h1 h2 h3 h4; obtain ⟨N9, hN9⟩ : ∃ k, k = W9.heap.size := ⟨_, rfl⟩; have HNN := hide hN9; clear hN9)
          | ((with_reducible refine wpList_alloc_state (by rfl) (by rfl) (some 16) (by rfl) N9 (unhide HNN) ?_); intro WA HXA HBA HSA; simp only [Act.put, List.setIfInBounds_toArray, List.set_cons_zero, List.set_cons_succ])
          | ((with_reducible refine wpList_store_state (by rfl) (.tmp 16) (.tmp 49) (by rfl) N9 xs ns ms (by with_unfolding_all rfl) (by with_unfolding_all rfl) Sv.none 0 0 (unhide HXA) ?_); intro WB HXB HEB; simp only [Act.put]; have HBB : Hid (Below W9.heap.size W9 WB) := (by rw [unhide HEB, ← unhide HNN]; exact belowRow (unhide HBA) (Nat.le_refl _) _); have HWB : Hid (Below W3.heap.size W3 WB) := (unhide HW9).trans ((unhide HBB).mono (unhide HW9).size))
          | ((with_reducible refine wpList_store_state (by rfl) (.tmp 10) (.tmp 53) (by rfl) (N + 1) Sv.none 0 0 (by with_unfolding_all rfl) (by with_unfolding_all rfl) Sv.none 0 0 (box_below (unhide HY2) (unhide HWB)) ?_); intro WC HXC HEC; simp only [Act.put]; have HQC : Hid (WC.heap[N + 1 + 1]? = some (.cells #[.int .u32 0, .int .u64 0] 43 (0, 0))) := (by rw [unhide HEC]; exact (heapRow_other _ _ _ _ (by omega)).trans (box_below (unhide HX3) (unhide HWB))))
          | ((with_reducible refine wpList_store_dot (by rfl) (.tmp 11) (.tmp 54) (by rfl) (N + 1 + 1) 0 0 (by with_unfolding_all rfl) (by with_unfolding_all rfl) (unhide HQC) ?_); intro WD HXD HED; simp only [Act.put]; have HQD : Hid (WD.heap[N + 1]? = some (stRow Sv.none 0 0)) := (by rw [unhide HED]; exact (heapRow_other _ _ _ _ (by omega)).trans (unhide HXC)))
          | fail)
        have HBE : Hid (Below N u WD) := by rw [unhide HED, unhide HEC]; exact belowRow (belowRow ((unhide HBU).trans ((unhide HWB).mono (by rw [unhide HS3]; omega))) (by omega) _) (by omega) _
        refine bodyPost_ret (results_cell2 rfl _ _ (N + 1) (N + 1 + 1) 25 43 #[.slice Sv.none.sa 0 Sv.none.sc, .slice Sv.none.ba 0 Sv.none.bc] #[.int .u32 0, .int .u64 0] (0, 0) (0, 0) _ _ rfl rfl (unhide HQD) (unhide HXD) stateUnd dotUnd rfl rfl stateInfo dotInfo) rfl ?_
        exact ⟨Sv.none, 0, 0, rfl, rfl, rfl, OwnT.none _ _, unhide HBE⟩
  · rw [if_pos hw] at hP
    cases hP
    have hwb : (wrongE s ctx gone val == 0) = false := by simpa using hw
    clear hPe HNX HBH
    generalize wrongE s ctx gone val = wr at *
    go_enter Try.func29, Try.ntmps29
    go_wp2_with (first
      | ((with_reducible refine wpList_box_state (by rfl) (.tmp 0) (by rfl) (some 5) (by rfl) N (unhide HN) v n1 m1 (by with_unfolding_all rfl) ?_); intro W1 HX1 HB1 HS1; simp only [Act.put, List.setIfInBounds_toArray, List.set_cons_zero, List.set_cons_succ])
      | ((with_reducible refine wpList_alloc_state (by rfl) (by rfl) (some 10) (by rfl) (N + 1) (unhide HS1).symm ?_); intro W2 HX2 HB2 HS2; simp only [Act.put, List.setIfInBounds_toArray, List.set_cons_zero, List.set_cons_succ])
      | ((with_reducible refine wpList_alloc_dot (by rfl) (by rfl) (some 11) (by rfl) (N + 1 + 1) (unhide HS2).symm ?_); intro W3 HX3 HB3 HS3; simp only [Act.put, List.setIfInBounds_toArray, List.set_cons_zero, List.set_cons_succ]; have HY1 : Hid (W3.heap[N]? = some (stRow v n1 m1)) := ((unhide HB3).block N (by omega)).trans (((unhide HB2).block N (Nat.lt_succ_self _)).trans (unhide HX1)); have HY2 : Hid (W3.heap[N + 1]? = some (stRow Sv.none 0 0)) := ((unhide HB3).block (N + 1) (Nat.lt_succ_self _)).trans (unhide HX2); have HBU : Hid (Below N u W3) := (unhide HB1).trans (((unhide HB2).mono (Nat.le_succ _)).trans ((unhide HB3).mono (by omega))); have HA3 := hide ((unhide HA).below (unhide HU _ (unhide HBU))); have HB4 := hide ((unhide HB).below (unhide HU _ (unhide HBU))); obtain ⟨x0, x1⟩ := st_cells (unhide HY1); clear HX1 HX2 HB1 HB2 HB3 HS1 HS2)
      | (go_at_call 58; refine (unhide HWR W3 (unhide HA3) (unhide HB4)).mono ?_; rintro e W5 ⟨rfl, hb⟩; have HW5 := hide hb; clear hb; obtain ⟨x0, x1⟩ := st_cells (box_below (unhide HY1) (unhide HW5)))
      | ((with_reducible refine wpList_store_state (by rfl) (.tmp 10) (.tmp 25) (by rfl) (N + 1) Sv.none 0 0 (by with_unfolding_all rfl) (by with_unfolding_all rfl) Sv.none 0 0 (box_below (unhide HY2) (unhide HW5)) ?_); intro WC HXC HEC; simp only [Act.put]; have HQC : Hid (WC.heap[N + 1 + 1]? = some (.cells #[.int .u32 0, .int .u64 0] 43 (0, 0))) := (by rw [unhide HEC]; exact (heapRow_other _ _ _ _ (by omega)).trans (box_below (unhide HX3) (unhide HW5))))
      | ((with_reducible refine wpList_store_dot (by rfl) (.tmp 11) (.tmp 26) (by rfl) (N + 1 + 1) 0 0 (by with_unfolding_all rfl) (by with_unfolding_all rfl) (unhide HQC) ?_); intro WD HXD HED; simp only [Act.put]; have HQD : Hid (WD.heap[N + 1]? = some (stRow Sv.none 0 0)) := (by rw [unhide HED]; exact (heapRow_other _ _ _ _ (by omega)).trans (unhide HXC)))
      | fail)
    have HBE : Hid (Below N u WD) := by rw [unhide HED, unhide HEC]; exact belowRow (belowRow ((unhide HBU).trans ((unhide HW5).mono (by rw [unhide HS3]; omega))) (by omega) _) (by omega) _
    refine bodyPost_ret (results_cell2 rfl _ _ (N + 1) (N + 1 + 1) 25 43 #[.slice Sv.none.sa 0 Sv.none.sc, .slice Sv.none.ba 0 Sv.none.bc] #[.int .u32 0, .int .u64 0] (0, 0) (0, 0) _ _ rfl rfl (unhide HQD) (unhide HXD) stateUnd dotUnd rfl rfl stateInfo dotInfo) rfl ?_
    exact ⟨Sv.none, 0, 0, rfl, rfl, rfl, OwnT.none _ _, unhide HBE⟩
end Go.Proofs.Ytbahfpcfjhifbaa
