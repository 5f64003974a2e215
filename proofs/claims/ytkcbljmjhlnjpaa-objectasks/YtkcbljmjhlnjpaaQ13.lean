/- Put together out of Yn, Xu, Xv. -/
import Derived.Test.YtkcbljmjhlnjpaaQ12
import Derived.Test.YtkcbljmjhlnjpaaQ03
import Derived.Test.YtkcbljmjhlnjpaaQ06
import Derived.Laws.BitsAllLaws
import Derived.Laws.IdiomStrings
import Derived.Lib.IndexBytes
namespace Go.Proofs.Ytkcbljmjhlnjpaa
open Go.RowKit Go.Lib
theorem results_cell2 {P : Program} {fn : Func} {p p2 q : Tmp} {ty ty2 : TypeId} (h : fn.results = #[.cell p ty, .cell p2 ty2, .tmp q]) (tmps : Array Value) (w : World) (g g2 : Nat) (t t2 : TypeId) (cs cs2 : Array Value) (fr fr2 : Nat × Nat) (d d2 : TypeDesc)
    (hp : tmps.getD p undef = .pointer (some ⟨g, 0, none⟩)) (hp2 : tmps.getD p2 undef = .pointer (some ⟨g2, 0, none⟩)) (hg : w.heap[g]? = some (.cells cs t fr)) (hg2 : w.heap[g2]? = some (.cells cs2 t2 fr2))
    (hu : P.underlying ty = some d) (hu2 : P.underlying ty2 = some d2) (hd : (match d with | .struct _ | .array _ _ => true | _ => false) = true) (hd2 : (match d2 with | .struct _ | .array _ _ => true | _ => false) = true) (hi : (P.info? ty).map (·.size) = some cs.size) (hi2 : (P.info? ty2).map (·.size) = some cs2.size) :
    (results fn tmps).run P w = .ok (.tuple #[.agg cs, .agg cs2, tmps.getD q undef]) w := by
  have hp' : tmps[p]?.getD undef = .pointer (some ⟨g, 0, none⟩) := by simpa using hp
  have hp2' : tmps[p2]?.getD undef = .pointer (some ⟨g2, 0, none⟩) := by simpa using hp2
  simp [results, h, hp', hp2', asAddr, run_loadVar_row w g t ty cs fr d hg hu hd hi, run_loadVar_row w g2 t2 ty2 cs2 fr2 d2 hg2 hu2 hd2 hi2]
/-- a put's sibling -/
noncomputable def putX (s : St) (ctx : List (Nat × Nat)) (x : Nat) (val : ByteArray) (gone : Bool) : Sb := ⟨x, topc s.seen ctx x + 1, gone, val⟩
open Classical in
/-- what Put answers -/
noncomputable def putV (s : St) (ctx : List (Nat × Nat)) (x : Nat) (val : ByteArray) (gone : Bool) : St × (Nat × Nat) × Int :=
  if wrongE s ctx gone val ≠ 0 then (St.none, (0, 0), wrongE s ctx gone val) else if topc s.seen ctx x = 1099511627776 then (St.none, (0, 0), 101)
  else if (putS s ctx (putX s ctx x val gone)).seen.length ≤ 64 ∧ (putS s ctx (putX s ctx x val gone)).sibs.length ≤ 64 then (putS s ctx (putX s ctx x val gone), (x, topc s.seen ctx x + 1), 0) else (St.none, (0, 0), 82)
theorem wrong_zero {s : St} {ctx : List (Nat × Nat)} {g : Bool} {v : ByteArray} : wrongE s ctx g v = 0 ↔ SOk s ∧ V.Ok ctx ∧ mayB g v = true := by
  unfold wrongE
  by_cases h1 : SOk s
  · by_cases h2 : V.Ok ctx
    · rw [if_neg (fun h => h h1), if_neg (fun h => h h2)]
      cases mayB g v <;> simp [h1, h2]
    · rw [if_neg (fun h => h h1), if_pos h2]; simp [h2]
  · rw [if_pos h1]; simp [h1]
theorem wp_store_state {o : Oper} {a : Act} {w : World} {K : Act → World → Prop} {Q : Exit → Act → World → Prop} (x y : Operand) (ho : o.op = .store 31 x y) (hd : o.dst = none) (g : Nat) (v : Sv) (n m : Nat) (hx : a.eval x = .pointer (some ⟨g, 0, none⟩)) (hy : a.eval y = v.v n m)
    (v0 : Sv) (n0 m0 : Nat) (hg : w.heap[g]? = some (stRow v0 n0 m0)) (h : K a (w.setRow g #[.slice v.sa n v.sc, .slice v.ba m v.bc])) : o.wp Try.prog a w K Q :=
  wp_store_row 31 x y ho g #[.slice v.sa n v.sc, .slice v.ba m v.bc] hx hy 31 _ hg stateInfo rfl (state_one _ _ _ _ _ _) (by rw [hd]; exact h)
theorem wp_store_dotrow {o : Oper} {a : Act} {w : World} {K : Act → World → Prop} {Q : Exit → Act → World → Prop} (x y : Operand) (ho : o.op = .store 53 x y) (hd : o.dst = none) (g : Nat) (q p : Int) (hx : a.eval x = .pointer (some ⟨g, 0, none⟩)) (hy : a.eval y = .agg #[.int .u32 q, .int .u64 p])
    {q0 p0 : Value} (hg : w.heap[g]? = some (.cells #[q0, p0] 53 (0, 0))) (h : K a (w.setRow g #[.int .u32 q, .int .u64 p])) : o.wp Try.prog a w K Q :=
  wp_store_row 53 x y ho g #[.int .u32 q, .int .u64 p] hx hy 53 _ hg dotInfo rfl (dot_one _ _) (by rw [hd]; exact h)
set_option maxRecDepth 100000 in
set_option maxHeartbeats 8000000 in
theorem dPut (s : St) (v : Sv) (ctx : List (Nat × Nat)) (xc : Option Addr) (cc nc : Nat) (ec : nc = ctx.length) (x : Nat) (hx : x < 4294967296) (val : ByteArray) (hval : val.size ≤ 140737488355328) (gone : Bool) (u : World) (hs : SAt u s v) (hc : Da u ctx xc cc)
    (J : St) (d : Nat × Nat) (r : Int) (hP : putV s ctx x val gone = (J, d, r)) :
    Calls Try.prog 54 #[v.v s.seen.length s.sibs.length, .slice xc nc cc, .int .u32 (x : Int), .string val, .bool gone] u fun e u' => ∃ y n m, e = .returned (.tuple #[Sv.v y n m, .agg #[.int .u32 (d.1 : Int), .int .u64 (d.2 : Int)], .int .i64 r]) ∧ n = J.seen.length ∧ m = J.sibs.length ∧ OwnT u' u.heap.size J y ∧ Below u.heap.size u u' := by
  have hmix : Try.prog.follows .mixedOrders = true := by kernel_rfl
  obtain ⟨N, hN⟩ : ∃ N, N = u.heap.size := ⟨_, rfl⟩
  have HN := hide hN
  have HA := hide hs
  have HB := hide hc
  rw [← hN]
  obtain ⟨n1, hn1⟩ : ∃ n, n = s.seen.length := ⟨_, rfl⟩
  obtain ⟨m1, hm1⟩ : ∃ n, n = s.sibs.length := ⟨_, rfl⟩
  rw [← hn1, ← hm1]
  have HWR : Hid (∀ W : World, SAt W s v → Da W ctx xc cc → Calls Try.prog 95 #[v.v n1 m1, .slice xc nc cc, .agg #[.bool gone, .string val]] W fun e W' => e = .returned (.int .i64 (wrongE s ctx gone val)) ∧ Below W.heap.size W W') := fun W h1 h2 => by rw [hn1, hm1]; exact dWrong s v ctx xc cc nc ec gone val hval W h1 h2
  have HNX : Hid (∀ (W : World) (d : Nat × Nat) (r : Int), SOk s → V.Ok ctx → SAt W s v → Da W ctx xc cc → (topc s.seen ctx x = 1099511627776 → d = (0, 0) ∧ r = 101) → (topc s.seen ctx x ≠ 1099511627776 → d = (x, topc s.seen ctx x + 1) ∧ r = 0) → Calls Try.prog 96 #[.slice v.sa n1 v.sc, .slice xc nc cc, .int .u32 (x : Int)] W fun e W' => e = .returned (.tuple #[.agg #[.int .u32 (d.1 : Int), .int .u64 (d.2 : Int)], .int .i64 r]) ∧ Below W.heap.size W W') := fun W d r os oc h1 h2 h3 h4 => dNext s.seen ctx v.sa xc v.sc cc n1 nc x hn1 ec W h1.seen h2 os.ok oc d r h3 h4
  have HBH : Hid (∀ (W : World) (t : Nat) (J : St) (r : Int), t = topc s.seen ctx x + 1 → t ≤ 1099511627776 → SOk s → V.Ok ctx → SAt W s v → Da W ctx xc cc → ((putS s ctx (putX s ctx x val gone)).seen.length ≤ 64 ∧ (putS s ctx (putX s ctx x val gone)).sibs.length ≤ 64 → J = putS s ctx (putX s ctx x val gone) ∧ r = 0) → (¬ ((putS s ctx (putX s ctx x val gone)).seen.length ≤ 64 ∧ (putS s ctx (putX s ctx x val gone)).sibs.length ≤ 64) → J = St.none ∧ r = 82) →
      Calls Try.prog 97 #[v.v n1 m1, .slice xc nc cc, .agg #[.int .u32 (x : Int), .int .u64 (t : Int), .bool gone, .string val]] W fun e u' => ∃ y n m, e = .returned (.tuple #[Sv.v y n m, .int .i64 r]) ∧ n = J.seen.length ∧ m = J.sibs.length ∧ OwnT u' W.heap.size J y ∧ Below W.heap.size W u') := fun W t J r et ht os oc h1 h2 h3 h4 => by
    rw [hn1, hm1]
    have e : putX s ctx x val gone = ⟨x, t, gone, val⟩ := by unfold putX; rw [et]
    rw [e] at h3 h4
    exact dBehind s v ctx xc cc nc ec ⟨x, t, gone, val⟩ W h1 h2 os oc ⟨hx, by show t < _; omega, hval⟩ (by show 1 ≤ t; omega) ht J r h3 h4
  have HU : Hid (∀ W : World, Below N u W → Below u.heap.size u W) := fun W hW => by rw [← unhide HN]; exact hW
  clear hN hs hc hn1 hm1 ec hval
  have hPe : (putV s ctx x val gone) = (J, d, r) := hP
  unfold putV at hP
  by_cases hw : wrongE s ctx gone val = 0
  · rw [if_neg (fun h => h hw)] at hP
    rw [hw] at HWR
    obtain ⟨os, oc, _⟩ := wrong_zero.1 hw
    have HOS := hide os
    have HOC := hide oc
    have htl : topc s.seen ctx x ≤ 1099511627776 := by have := V.cnt_le os.ok.pos x; have := V.cnt_le oc.pos x; unfold topc; omega
    by_cases ht : topc s.seen ctx x = 1099511627776
    · rw [if_pos ht] at hP
      cases hP
      have HT1 : Hid (topc s.seen ctx x = 1099511627776 → ((0, 0) : Nat × Nat) = (0, 0) ∧ (101 : Int) = 101) := fun _ => ⟨rfl, rfl⟩
      have HT2 : Hid (topc s.seen ctx x ≠ 1099511627776 → ((0, 0) : Nat × Nat) = (x, topc s.seen ctx x + 1) ∧ (101 : Int) = 0) := fun h => absurd ht h
      have HNX1 := hide (fun (W : World) h1 h2 => unhide HNX W (0, 0) 101 (unhide HOS) (unhide HOC) h1 h2 (unhide HT1) (unhide HT2))
      clear hPe hw os oc htl ht HBH HNX HT1 HT2
      go_enter Try.func54, Try.ntmps54
      go_wp2_with (first
        | ((with_reducible refine wpList_box_state (by rfl) (.tmp 0) (by rfl) (some 5) (by rfl) N (unhide HN) v n1 m1 (by with_unfolding_all rfl) ?_); intro W1 HX1 HB1 HS1; simp only [Act.put, List.setIfInBounds_toArray, List.set_cons_zero, List.set_cons_succ])
        | ((with_reducible refine wpList_alloc_state (by rfl) (by rfl) (some 10) (by rfl) (N + 1) (unhide HS1).symm ?_); intro W2 HX2 HB2 HS2; simp only [Act.put, List.setIfInBounds_toArray, List.set_cons_zero, List.set_cons_succ])
        | ((with_reducible refine wpList_alloc_dot (by rfl) (by rfl) (some 11) (by rfl) (N + 1 + 1) (unhide HS2).symm ?_); intro W3 HX3 HB3 HS3; simp only [Act.put, List.setIfInBounds_toArray, List.set_cons_zero, List.set_cons_succ]; have HY1 : Hid (W3.heap[N]? = some (stRow v n1 m1)) := ((unhide HB3).block N (by omega)).trans (((unhide HB2).block N (Nat.lt_succ_self _)).trans (unhide HX1)); have HY2 : Hid (W3.heap[N + 1]? = some (stRow Sv.none 0 0)) := ((unhide HB3).block (N + 1) (Nat.lt_succ_self _)).trans (unhide HX2); have HBU : Hid (Below N u W3) := (unhide HB1).trans (((unhide HB2).mono (Nat.le_succ _)).trans ((unhide HB3).mono (by omega))); have HA3 := hide ((unhide HA).below (unhide HU _ (unhide HBU))); have HB4 := hide ((unhide HB).below (unhide HU _ (unhide HBU))); obtain ⟨x0, x1⟩ := st_cells (unhide HY1); clear HX1 HX2 HB1 HB2 HB3 HS1 HS2)
        | (go_at_call 95; refine (unhide HWR W3 (unhide HA3) (unhide HB4)).mono ?_; rintro e W5 ⟨rfl, hb⟩; have HW5 := hide hb; clear hb; obtain ⟨x0, x1⟩ := st_cells (box_below (unhide HY1) (unhide HW5)))
        | (go_at_call 96; refine (unhide HNX1 W5 ((unhide HA3).below (unhide HW5)) ((unhide HB4).below (unhide HW5))).mono ?_; rintro e W6 ⟨rfl, hb⟩; have HW6 : Hid (Below W3.heap.size W3 W6) := (unhide HW5).trans (hb.mono (unhide HW5).size); clear hb; obtain ⟨N6, hN6⟩ : ∃ k, k = W6.heap.size := ⟨_, rfl⟩; have HN6 := hide hN6; clear hN6)
        | ((with_reducible refine wpList_alloc_dot (by rfl) (by rfl) (some 14) (by rfl) N6 (unhide HN6) ?_); intro W7 HX7 HB7 HS7; simp only [Act.put, List.setIfInBounds_toArray, List.set_cons_zero, List.set_cons_succ])
        | ((with_reducible refine wpList_store_dot (by rfl) (.tmp 14) (.tmp 34) (by rfl) N6 0 0 (by with_unfolding_all rfl) (by with_unfolding_all rfl) (unhide HX7) ?_); intro W8 HX8 HE8; simp only [Act.put]; have HB8 : Hid (Below W6.heap.size W6 W8) := (by rw [unhide HE8, ← unhide HN6]; exact belowRow (unhide HB7) (Nat.le_refl _) _); have HW8 : Hid (Below W3.heap.size W3 W8) := (unhide HW6).trans ((unhide HB8).mono (unhide HW6).size); obtain ⟨x0, x1⟩ := st_cells (box_below (unhide HY1) (unhide HW8)); obtain ⟨y0, y1⟩ := box2 (unhide HX8))
        | ((with_reducible refine wpList_store_state (by rfl) (.tmp 10) (.tmp 38) (by rfl) (N + 1) Sv.none 0 0 (by with_unfolding_all rfl) (by with_unfolding_all rfl) Sv.none 0 0 (box_below (unhide HY2) (unhide HW8)) ?_); intro WC HXC HEC; simp only [Act.put]; have HQC : Hid (WC.heap[N + 1 + 1]? = some (.cells #[.int .u32 0, .int .u64 0] 53 (0, 0))) := (by rw [unhide HEC]; exact (heapRow_other _ _ _ _ (by omega)).trans (box_below (unhide HX3) (unhide HW8))))
        | ((with_reducible refine wpList_store_dot (by rfl) (.tmp 11) (.tmp 39) (by rfl) (N + 1 + 1) 0 0 (by with_unfolding_all rfl) (by with_unfolding_all rfl) (unhide HQC) ?_); intro WD HXD HED; simp only [Act.put]; have HQD : Hid (WD.heap[N + 1]? = some (stRow Sv.none 0 0)) := (by rw [unhide HED]; exact (heapRow_other _ _ _ _ (by omega)).trans (unhide HXC)))
        | fail)
      have HBE : Hid (Below N u WD) := by rw [unhide HED, unhide HEC]; exact belowRow (belowRow ((unhide HBU).trans ((unhide HW8).mono (by rw [unhide HS3]; omega))) (by omega) _) (by omega) _
      refine bodyPost_ret (results_cell2 rfl _ _ (N + 1) (N + 1 + 1) 31 53 #[.slice Sv.none.sa 0 Sv.none.sc, .slice Sv.none.ba 0 Sv.none.bc] #[.int .u32 0, .int .u64 0] (0, 0) (0, 0) _ _ rfl rfl (unhide HQD) (unhide HXD) stateUnd dotUnd rfl rfl stateInfo dotInfo) rfl ?_
      exact ⟨Sv.none, 0, 0, rfl, rfl, rfl, OwnT.none _ _, unhide HBE⟩
    · rw [if_neg ht] at hP
      obtain ⟨t1, ht1⟩ : ∃ t, t = topc s.seen ctx x + 1 := ⟨_, rfl⟩
      have HTE := hide ht1
      have HTL : Hid (t1 ≤ 1099511627776) := hide (by omega)
      have HT1 : Hid (topc s.seen ctx x = 1099511627776 → ((x, t1) : Nat × Nat) = (0, 0) ∧ (0 : Int) = 101) := fun h => absurd h ht
      have HT2 : Hid (topc s.seen ctx x ≠ 1099511627776 → ((x, t1) : Nat × Nat) = (x, topc s.seen ctx x + 1) ∧ (0 : Int) = 0) := fun _ => ⟨by rw [unhide HTE], rfl⟩
      rw [← ht1] at hP
      have HNX1 := hide (fun (W : World) h1 h2 => unhide HNX W (x, t1) 0 (unhide HOS) (unhide HOC) h1 h2 (unhide HT1) (unhide HT2))
      clear hPe hw os oc htl ht ht1 HNX HT1 HT2
      by_cases hf : (putS s ctx (putX s ctx x val gone)).seen.length ≤ 64 ∧ (putS s ctx (putX s ctx x val gone)).sibs.length ≤ 64
      · rw [if_pos hf] at hP
        cases hP
        obtain ⟨J0, hJ0⟩ : ∃ J, J = putS s ctx (putX s ctx x val gone) := ⟨_, rfl⟩
        have HP1 : Hid ((putS s ctx (putX s ctx x val gone)).seen.length ≤ 64 ∧ (putS s ctx (putX s ctx x val gone)).sibs.length ≤ 64 → J0 = putS s ctx (putX s ctx x val gone) ∧ (0 : Int) = 0) := fun _ => ⟨hJ0, rfl⟩
        have HP2 : Hid (¬ ((putS s ctx (putX s ctx x val gone)).seen.length ≤ 64 ∧ (putS s ctx (putX s ctx x val gone)).sibs.length ≤ 64) → J0 = St.none ∧ (0 : Int) = 82) := fun h => absurd hf h
        rw [← hJ0]
        have HBH1 := hide (fun (W : World) h1 h2 => unhide HBH W t1 J0 0 (unhide HTE) (unhide HTL) (unhide HOS) (unhide HOC) h1 h2 (unhide HP1) (unhide HP2))
        clear hf hJ0 HBH HP1 HP2
        go_enter Try.func54, Try.ntmps54
        go_wp2_with (first
          | ((with_reducible refine wpList_box_state (by rfl) (.tmp 0) (by rfl) (some 5) (by rfl) N (unhide HN) v n1 m1 (by with_unfolding_all rfl) ?_); intro W1 HX1 HB1 HS1; simp only [Act.put, List.setIfInBounds_toArray, List.set_cons_zero, List.set_cons_succ])
          | ((with_reducible refine wpList_alloc_state (by rfl) (by rfl) (some 10) (by rfl) (N + 1) (unhide HS1).symm ?_); intro W2 HX2 HB2 HS2; simp only [Act.put, List.setIfInBounds_toArray, List.set_cons_zero, List.set_cons_succ])
          | ((with_reducible refine wpList_alloc_dot (by rfl) (by rfl) (some 11) (by rfl) (N + 1 + 1) (unhide HS2).symm ?_); intro W3 HX3 HB3 HS3; simp only [Act.put, List.setIfInBounds_toArray, List.set_cons_zero, List.set_cons_succ]; have HY1 : Hid (W3.heap[N]? = some (stRow v n1 m1)) := ((unhide HB3).block N (by omega)).trans (((unhide HB2).block N (Nat.lt_succ_self _)).trans (unhide HX1)); have HY2 : Hid (W3.heap[N + 1]? = some (stRow Sv.none 0 0)) := ((unhide HB3).block (N + 1) (Nat.lt_succ_self _)).trans (unhide HX2); have HBU : Hid (Below N u W3) := (unhide HB1).trans (((unhide HB2).mono (Nat.le_succ _)).trans ((unhide HB3).mono (by omega))); have HA3 := hide ((unhide HA).below (unhide HU _ (unhide HBU))); have HB4 := hide ((unhide HB).below (unhide HU _ (unhide HBU))); obtain ⟨x0, x1⟩ := st_cells (unhide HY1); clear HX1 HX2 HB1 HB2 HB3 HS1 HS2)
          | (go_at_call 95; refine (unhide HWR W3 (unhide HA3) (unhide HB4)).mono ?_; rintro e W5 ⟨rfl, hb⟩; have HW5 := hide hb; clear hb; obtain ⟨x0, x1⟩ := st_cells (box_below (unhide HY1) (unhide HW5)))
          | (go_at_call 96; refine (unhide HNX1 W5 ((unhide HA3).below (unhide HW5)) ((unhide HB4).below (unhide HW5))).mono ?_; rintro e W6 ⟨rfl, hb⟩; have HW6 : Hid (Below W3.heap.size W3 W6) := (unhide HW5).trans (hb.mono (unhide HW5).size); clear hb; obtain ⟨N6, hN6⟩ : ∃ k, k = W6.heap.size := ⟨_, rfl⟩; have HN6 := hide hN6; clear hN6)
          | ((with_reducible refine wpList_alloc_dot (by rfl) (by rfl) (some 14) (by rfl) N6 (unhide HN6) ?_); intro W7 HX7 HB7 HS7; simp only [Act.put, List.setIfInBounds_toArray, List.set_cons_zero, List.set_cons_succ])
          | ((with_reducible refine wpList_store_dot (by rfl) (.tmp 14) (.tmp 34) (by rfl) N6 (x : Int) (t1 : Int) (by with_unfolding_all rfl) (by with_unfolding_all rfl) (unhide HX7) ?_); intro W8 HX8 HE8; simp only [Act.put]; have HB8 : Hid (Below W6.heap.size W6 W8) := (by rw [unhide HE8, ← unhide HN6]; exact belowRow (unhide HB7) (Nat.le_refl _) _); have HW8 : Hid (Below W3.heap.size W3 W8) := (unhide HW6).trans ((unhide HB8).mono (unhide HW6).size); obtain ⟨x0, x1⟩ := st_cells (box_below (unhide HY1) (unhide HW8)); obtain ⟨y0, y1⟩ := box2 (unhide HX8))
          | (go_at_call 97; refine (unhide HBH1 W8 ((unhide HA3).below (unhide HW8)) ((unhide HB4).below (unhide HW8))).mono ?_; rintro e W9 ⟨xs, ns, ms, rfl, h1, h2, h3, h4⟩; have HW9 : Hid (Below W3.heap.size W3 W9) := (unhide HW8).trans (h4.mono (unhide HW8).size); have HX9 := hide (box_below (unhide HX8) h4); have HN9 := hide h1; have HM9 := hide h2; have HO9 : Hid (OwnT W9 W3.heap.size J0 xs) := h3.down (unhide HW8).size; clear h1 h2 h3 h4; obtain ⟨N9, hN9⟩ : ∃ k, k = W9.heap.size := ⟨_, rfl⟩; have HNN := hide hN9; clear hN9)
          | ((with_reducible refine wpList_alloc_state (by rfl) (by rfl) (some 16) (by rfl) N9 (unhide HNN) ?_); intro WA HXA HBA HSA; simp only [Act.put, List.setIfInBounds_toArray, List.set_cons_zero, List.set_cons_succ])
          | ((with_reducible refine wpList_store_state (by rfl) (.tmp 16) (.tmp 49) (by rfl) N9 xs ns ms (by with_unfolding_all rfl) (by with_unfolding_all rfl) Sv.none 0 0 (unhide HXA) ?_); intro WB HXB HEB; simp only [Act.put]; have HBB : Hid (Below W9.heap.size W9 WB) := (by rw [unhide HEB, ← unhide HNN]; exact belowRow (unhide HBA) (Nat.le_refl _) _); have HWB : Hid (Below W3.heap.size W3 WB) := (unhide HW9).trans ((unhide HBB).mono (unhide HW9).size))
          | fail)
        have HN3 : Hid (N + 1 + 1 < W3.heap.size) := by rw [unhide HS3]; exact Nat.lt_succ_self _
        have HR6 : Hid (N + 1 + 1 < N6) := by rw [unhide HN6]; exact Nat.lt_of_lt_of_le (unhide HN3) (unhide HW6).size
        have HR9 : Hid (N + 1 + 1 < N9) := by rw [unhide HNN]; exact Nat.lt_of_lt_of_le (unhide HN3) (unhide HW9).size
        have HXX : Hid (WB.drew.heap[N9]? = some (stRow xs ns ms) ∧ WB.drew.heap[N6]? = some (.cells #[.int .u32 (x : Int), .int .u64 (t1 : Int)] 53 (0, 0))) := ⟨unhide HXB, box_below (unhide HX9) (belowDrew (unhide HBB))⟩
        have HZ2 : Hid (WB.drew.heap[N + 1]? = some (stRow Sv.none 0 0)) := box_below (unhide HY2) (belowDrew (unhide HWB))
        have HZ3 : Hid (WB.drew.heap[N + 1 + 1]? = some (.cells #[.int .u32 0, .int .u64 0] 53 (0, 0))) := box_below (unhide HX3) (belowDrew (unhide HWB))
        have HZB : Hid (Below W3.heap.size W3 WB.drew) := belowDrew (unhide HWB)
        have HZO : Hid (OwnT WB.drew W3.heap.size J0 xs) := (unhide HO9).below (belowDrew (unhide HBB))
        refine wp_region_last (fun W => W.heap[N9]? = some (stRow xs ns ms) ∧ W.heap[N6]? = some (.cells #[.int .u32 (x : Int), .int .u64 (t1 : Int)] 53 (0, 0))) 4 hmix (unhide HXX) fun hS => ?_
        generalize WB.drew = Z0 at hS HXX HZ2 HZ3 HZB HZO ⊢
        clear HXX
        refine wpAnyL_take 0 56 (xs.v ns ms) [] rfl rfl (by kernel_rfl) (by kernel_rfl) (by kernel_rfl) (by kernel_rfl) (by kernel_rfl) (fun _ _ _ h => h) (by rfl) (fun W hW => by obtain ⟨e1, e2⟩ := st_cells hW.1; unfold Sv.v; go_simp) hS ?_
        simp only [Act.put, List.setIfInBounds_toArray, List.set_cons_zero, List.set_cons_succ]
        refine wpAnyL_take 1 57 (.agg #[.int .u32 (x : Int), .int .u64 (t1 : Int)]) [] rfl rfl (by kernel_rfl) (by kernel_rfl) (by kernel_rfl) (by kernel_rfl) (by kernel_rfl) (fun _ _ _ h => h) (by rfl) (fun W hW => by obtain ⟨e1, e2⟩ := box2 hW.2; go_simp) hS ?_
        simp only [Act.put, List.setIfInBounds_toArray, List.set_cons_zero, List.set_cons_succ]
        refine wpAnyL_one (i := 2) (by kernel_rfl) rfl (by rfl) fun K hK => ?_
        refine wp_store_state (.tmp 10) (.tmp 56) (by rfl) (by rfl) (N + 1) xs ns ms (by with_unfolding_all rfl) (by with_unfolding_all rfl) Sv.none 0 0 (unhide HZ2) ?_
        obtain ⟨Z1, hZ1⟩ : ∃ Z, Z = Z0.setRow (N + 1) #[.slice xs.sa ns xs.sc, .slice xs.ba ms xs.bc] := ⟨_, rfl⟩
        have HQ1 : Hid (Z1.heap[N + 1]? = some (stRow xs ns ms)) := by rw [hZ1]; exact heapRow_same (unhide HZ2) _
        have HQ2 : Hid (Z1.heap[N + 1 + 1]? = some (.cells #[.int .u32 0, .int .u64 0] 53 (0, 0))) := by rw [hZ1]; exact (heapRow_other _ _ _ _ (by omega)).trans (unhide HZ3)
        have HS1 : Hid (Z1.heap[N9]? = some (stRow xs ns ms) ∧ Z1.heap[N6]? = some (.cells #[.int .u32 (x : Int), .int .u64 (t1 : Int)] 53 (0, 0))) := by rw [hZ1]; exact ⟨(heapRow_other _ _ _ _ (by have := unhide HR9; omega)).trans hS.1, (heapRow_other _ _ _ _ (by have := unhide HR6; omega)).trans hS.2⟩
        have HEZ := hide hZ1
        rw [← hZ1]
        clear hZ1
        refine hK _ _ (fun _ => unhide HS1) ?_
        clear hK K
        refine wpAnyL_one (i := 3) (by kernel_rfl) rfl (by rfl) fun K hK => ?_
        refine wp_store_dotrow (.tmp 11) (.tmp 57) (by rfl) (by rfl) (N + 1 + 1) (x : Int) (t1 : Int) (by with_unfolding_all rfl) (by with_unfolding_all rfl) (unhide HQ2) ?_
        obtain ⟨Z2, hZ2⟩ : ∃ Z, Z = Z1.setRow (N + 1 + 1) #[.int .u32 (x : Int), .int .u64 (t1 : Int)] := ⟨_, rfl⟩
        have HQD : Hid (Z2.heap[N + 1]? = some (stRow xs ns ms)) := by rw [hZ2]; exact (heapRow_other _ _ _ _ (by omega)).trans (unhide HQ1)
        have HXD : Hid (Z2.heap[N + 1 + 1]? = some (.cells #[.int .u32 (x : Int), .int .u64 (t1 : Int)] 53 (0, 0))) := by rw [hZ2]; exact heapRow_same (unhide HQ2) _
        have HS2 : Hid (Z2.heap[N9]? = some (stRow xs ns ms) ∧ Z2.heap[N6]? = some (.cells #[.int .u32 (x : Int), .int .u64 (t1 : Int)] 53 (0, 0))) := by rw [hZ2]; exact ⟨(heapRow_other _ _ _ _ (by have := unhide HR9; omega)).trans (unhide HS1).1, (heapRow_other _ _ _ _ (by have := unhide HR6; omega)).trans (unhide HS1).2⟩
        have HEY := hide hZ2
        rw [← hZ2]
        clear hZ2
        refine hK _ _ (fun _ => unhide HS2) ?_
        clear hK K
        refine wpAnyL_one (i := 4) (by kernel_rfl) rfl (by rfl) fun K hK => ?_
        refine wp_val (.int .i64 0) (by go_simp) (some 12) (by rfl) ?_
        refine hK _ _ (fun _ => unhide HS2) ?_
        clear hK K
        simp only [Act.put, List.setIfInBounds_toArray, List.set_cons_zero, List.set_cons_succ]
        refine wpAnyL_done (by kernel_rfl) ?_ _
        have HBE : Hid (Below N u Z2) := by rw [unhide HEY, unhide HEZ]; exact belowRow (belowRow ((unhide HBU).trans ((unhide HZB).mono (by have := unhide HN3; omega))) (by omega) _) (by omega) _
        have HOE : Hid (OwnT Z2 N J0 xs) := by
          rw [unhide HEY, unhide HEZ]
          have hlt := unhide HN3
          have h1 := unhide HZO
          refine ⟨own_keep (own_down h1.seen (by omega)) fun g hg => ?_, own_keep (own_down h1.sibs (by omega)) fun g hg => ?_⟩
          · have := (World.ownsRow.lt h1.seen g hg).1
            exact (heapRow_other _ _ _ _ (by omega)).trans (heapRow_other _ _ _ _ (by omega))
          · have := (World.ownsRow.lt h1.sibs g hg).1
            exact (heapRow_other _ _ _ _ (by omega)).trans (heapRow_other _ _ _ _ (by omega))
        go_wp2
        refine bodyPost_ret (results_cell2 rfl _ _ (N + 1) (N + 1 + 1) 31 53 #[.slice xs.sa ns xs.sc, .slice xs.ba ms xs.bc] #[.int .u32 (x : Int), .int .u64 (t1 : Int)] (0, 0) (0, 0) _ _ rfl rfl (unhide HQD) (unhide HXD) stateUnd dotUnd rfl rfl stateInfo dotInfo) rfl ?_
        exact ⟨xs, ns, ms, rfl, unhide HN9, unhide HM9, unhide HOE, unhide HBE⟩
      · rw [if_neg hf] at hP
        cases hP
        have HP1 : Hid ((putS s ctx (putX s ctx x val gone)).seen.length ≤ 64 ∧ (putS s ctx (putX s ctx x val gone)).sibs.length ≤ 64 → St.none = putS s ctx (putX s ctx x val gone) ∧ (82 : Int) = 0) := fun h => absurd h hf
        have HP2 : Hid (¬ ((putS s ctx (putX s ctx x val gone)).seen.length ≤ 64 ∧ (putS s ctx (putX s ctx x val gone)).sibs.length ≤ 64) → St.none = St.none ∧ (82 : Int) = 82) := fun _ => ⟨rfl, rfl⟩
        have HBH1 := hide (fun (W : World) h1 h2 => unhide HBH W t1 St.none 82 (unhide HTE) (unhide HTL) (unhide HOS) (unhide HOC) h1 h2 (unhide HP1) (unhide HP2))
        clear hf HBH HP1 HP2
        go_enter Try.func54, Try.ntmps54
        go_wp2_with (first
          | ((with_reducible refine wpList_box_state (by rfl) (.tmp 0) (by rfl) (some 5) (by rfl) N (unhide HN) v n1 m1 (by with_unfolding_all rfl) ?_); intro W1 HX1 HB1 HS1; simp only [Act.put, List.setIfInBounds_toArray, List.set_cons_zero, List.set_cons_succ])
          | ((with_reducible refine wpList_alloc_state (by rfl) (by rfl) (some 10) (by rfl) (N + 1) (unhide HS1).symm ?_); intro W2 HX2 HB2 HS2; simp only [Act.put, List.setIfInBounds_toArray, List.set_cons_zero, List.set_cons_succ])
          | ((with_reducible refine wpList_alloc_dot (by rfl) (by rfl) (some 11) (by rfl) (N + 1 + 1) (unhide HS2).symm ?_); intro W3 HX3 HB3 HS3; simp only [Act.put, List.setIfInBounds_toArray, List.set_cons_zero, List.set_cons_succ]; have HY1 : Hid (W3.heap[N]? = some (stRow v n1 m1)) := ((unhide HB3).block N (by omega)).trans (((unhide HB2).block N (Nat.lt_succ_self _)).trans (unhide HX1)); have HY2 : Hid (W3.heap[N + 1]? = some (stRow Sv.none 0 0)) := ((unhide HB3).block (N + 1) (Nat.lt_succ_self _)).trans (unhide HX2); have HBU : Hid (Below N u W3) := (unhide HB1).trans (((unhide HB2).mono (Nat.le_succ _)).trans ((unhide HB3).mono (by omega))); have HA3 := hide ((unhide HA).below (unhide HU _ (unhide HBU))); have HB4 := hide ((unhide HB).below (unhide HU _ (unhide HBU))); obtain ⟨x0, x1⟩ := st_cells (unhide HY1); clear HX1 HX2 HB1 HB2 HB3 HS1 HS2)
          | (go_at_call 95; refine (unhide HWR W3 (unhide HA3) (unhide HB4)).mono ?_; rintro e W5 ⟨rfl, hb⟩; have HW5 := hide hb; clear hb; obtain ⟨x0, x1⟩ := st_cells (box_below (unhide HY1) (unhide HW5)))
          | (go_at_call 96; refine (unhide HNX1 W5 ((unhide HA3).below (unhide HW5)) ((unhide HB4).below (unhide HW5))).mono ?_; rintro e W6 ⟨rfl, hb⟩; have HW6 : Hid (Below W3.heap.size W3 W6) := (unhide HW5).trans (hb.mono (unhide HW5).size); clear hb; obtain ⟨N6, hN6⟩ : ∃ k, k = W6.heap.size := ⟨_, rfl⟩; have HN6 := hide hN6; clear hN6)
          | ((with_reducible refine wpList_alloc_dot (by rfl) (by rfl) (some 14) (by rfl) N6 (unhide HN6) ?_); intro W7 HX7 HB7 HS7; simp only [Act.put, List.setIfInBounds_toArray, List.set_cons_zero, List.set_cons_succ])
          | ((with_reducible refine wpList_store_dot (by rfl) (.tmp 14) (.tmp 34) (by rfl) N6 (x : Int) (t1 : Int) (by with_unfolding_all rfl) (by with_unfolding_all rfl) (unhide HX7) ?_); intro W8 HX8 HE8; simp only [Act.put]; have HB8 : Hid (Below W6.heap.size W6 W8) := (by rw [unhide HE8, ← unhide HN6]; exact belowRow (unhide HB7) (Nat.le_refl _) _); have HW8 : Hid (Below W3.heap.size W3 W8) := (unhide HW6).trans ((unhide HB8).mono (unhide HW6).size); obtain ⟨x0, x1⟩ := st_cells (box_below (unhide HY1) (unhide HW8)); obtain ⟨y0, y1⟩ := box2 (unhide HX8))
          | (go_at_call 97; refine (unhide HBH1 W8 ((unhide HA3).below (unhide HW8)) ((unhide HB4).below (unhide HW8))).mono ?_; rintro e W9 ⟨xs, ns, ms, rfl, h1, h2, h3, h4⟩; have HW9 : Hid (Below W3.heap.size W3 W9) := (unhide HW8).trans (h4.mono (unhide HW8).size); have HX9 := hide (box_below (unhide HX8) h4); have HN9 := hide h1; have HM9 := hide h2; have HO9 : Hid (OwnT W9 W3.heap.size St.none xs) := h3.down (unhide HW8).size; clear h1 h2 h3 h4; obtain ⟨N9, hN9⟩ : ∃ k, k = W9.heap.size := ⟨_, rfl⟩; have HNN := hide hN9; clear hN9)
          | ((with_reducible refine wpList_alloc_state (by rfl) (by rfl) (some 16) (by rfl) N9 (unhide HNN) ?_); intro WA HXA HBA HSA; simp only [Act.put, List.setIfInBounds_toArray, List.set_cons_zero, List.set_cons_succ])
          | ((with_reducible refine wpList_store_state (by rfl) (.tmp 16) (.tmp 49) (by rfl) N9 xs ns ms (by with_unfolding_all rfl) (by with_unfolding_all rfl) Sv.none 0 0 (unhide HXA) ?_); intro WB HXB HEB; simp only [Act.put]; have HBB : Hid (Below W9.heap.size W9 WB) := (by rw [unhide HEB, ← unhide HNN]; exact belowRow (unhide HBA) (Nat.le_refl _) _); have HWB : Hid (Below W3.heap.size W3 WB) := (unhide HW9).trans ((unhide HBB).mono (unhide HW9).size))
          | ((with_reducible refine wpList_store_state (by rfl) (.tmp 10) (.tmp 53) (by rfl) (N + 1) Sv.none 0 0 (by with_unfolding_all rfl) (by with_unfolding_all rfl) Sv.none 0 0 (box_below (unhide HY2) (unhide HWB)) ?_); intro WC HXC HEC; simp only [Act.put]; have HQC : Hid (WC.heap[N + 1 + 1]? = some (.cells #[.int .u32 0, .int .u64 0] 53 (0, 0))) := (by rw [unhide HEC]; exact (heapRow_other _ _ _ _ (by omega)).trans (box_below (unhide HX3) (unhide HWB))))
          | ((with_reducible refine wpList_store_dot (by rfl) (.tmp 11) (.tmp 54) (by rfl) (N + 1 + 1) 0 0 (by with_unfolding_all rfl) (by with_unfolding_all rfl) (unhide HQC) ?_); intro WD HXD HED; simp only [Act.put]; have HQD : Hid (WD.heap[N + 1]? = some (stRow Sv.none 0 0)) := (by rw [unhide HED]; exact (heapRow_other _ _ _ _ (by omega)).trans (unhide HXC)))
          | fail)
        have HBE : Hid (Below N u WD) := by rw [unhide HED, unhide HEC]; exact belowRow (belowRow ((unhide HBU).trans ((unhide HWB).mono (by rw [unhide HS3]; omega))) (by omega) _) (by omega) _
        refine bodyPost_ret (results_cell2 rfl _ _ (N + 1) (N + 1 + 1) 31 53 #[.slice Sv.none.sa 0 Sv.none.sc, .slice Sv.none.ba 0 Sv.none.bc] #[.int .u32 0, .int .u64 0] (0, 0) (0, 0) _ _ rfl rfl (unhide HQD) (unhide HXD) stateUnd dotUnd rfl rfl stateInfo dotInfo) rfl ?_
        exact ⟨Sv.none, 0, 0, rfl, rfl, rfl, OwnT.none _ _, unhide HBE⟩
  · rw [if_pos hw] at hP
    cases hP
    have hwb : (wrongE s ctx gone val == 0) = false := by simpa using hw
    clear hPe HNX HBH
    generalize wrongE s ctx gone val = wr at *
    go_enter Try.func54, Try.ntmps54
    go_wp2_with (first
      | ((with_reducible refine wpList_box_state (by rfl) (.tmp 0) (by rfl) (some 5) (by rfl) N (unhide HN) v n1 m1 (by with_unfolding_all rfl) ?_); intro W1 HX1 HB1 HS1; simp only [Act.put, List.setIfInBounds_toArray, List.set_cons_zero, List.set_cons_succ])
      | ((with_reducible refine wpList_alloc_state (by rfl) (by rfl) (some 10) (by rfl) (N + 1) (unhide HS1).symm ?_); intro W2 HX2 HB2 HS2; simp only [Act.put, List.setIfInBounds_toArray, List.set_cons_zero, List.set_cons_succ])
      | ((with_reducible refine wpList_alloc_dot (by rfl) (by rfl) (some 11) (by rfl) (N + 1 + 1) (unhide HS2).symm ?_); intro W3 HX3 HB3 HS3; simp only [Act.put, List.setIfInBounds_toArray, List.set_cons_zero, List.set_cons_succ]; have HY1 : Hid (W3.heap[N]? = some (stRow v n1 m1)) := ((unhide HB3).block N (by omega)).trans (((unhide HB2).block N (Nat.lt_succ_self _)).trans (unhide HX1)); have HY2 : Hid (W3.heap[N + 1]? = some (stRow Sv.none 0 0)) := ((unhide HB3).block (N + 1) (Nat.lt_succ_self _)).trans (unhide HX2); have HBU : Hid (Below N u W3) := (unhide HB1).trans (((unhide HB2).mono (Nat.le_succ _)).trans ((unhide HB3).mono (by omega))); have HA3 := hide ((unhide HA).below (unhide HU _ (unhide HBU))); have HB4 := hide ((unhide HB).below (unhide HU _ (unhide HBU))); obtain ⟨x0, x1⟩ := st_cells (unhide HY1); clear HX1 HX2 HB1 HB2 HB3 HS1 HS2)
      | (go_at_call 95; refine (unhide HWR W3 (unhide HA3) (unhide HB4)).mono ?_; rintro e W5 ⟨rfl, hb⟩; have HW5 := hide hb; clear hb; obtain ⟨x0, x1⟩ := st_cells (box_below (unhide HY1) (unhide HW5)))
      | ((with_reducible refine wpList_store_state (by rfl) (.tmp 10) (.tmp 25) (by rfl) (N + 1) Sv.none 0 0 (by with_unfolding_all rfl) (by with_unfolding_all rfl) Sv.none 0 0 (box_below (unhide HY2) (unhide HW5)) ?_); intro WC HXC HEC; simp only [Act.put]; have HQC : Hid (WC.heap[N + 1 + 1]? = some (.cells #[.int .u32 0, .int .u64 0] 53 (0, 0))) := (by rw [unhide HEC]; exact (heapRow_other _ _ _ _ (by omega)).trans (box_below (unhide HX3) (unhide HW5))))
      | ((with_reducible refine wpList_store_dot (by rfl) (.tmp 11) (.tmp 26) (by rfl) (N + 1 + 1) 0 0 (by with_unfolding_all rfl) (by with_unfolding_all rfl) (unhide HQC) ?_); intro WD HXD HED; simp only [Act.put]; have HQD : Hid (WD.heap[N + 1]? = some (stRow Sv.none 0 0)) := (by rw [unhide HED]; exact (heapRow_other _ _ _ _ (by omega)).trans (unhide HXC)))
      | fail)
    have HBE : Hid (Below N u WD) := by rw [unhide HED, unhide HEC]; exact belowRow (belowRow ((unhide HBU).trans ((unhide HW5).mono (by rw [unhide HS3]; omega))) (by omega) _) (by omega) _
    refine bodyPost_ret (results_cell2 rfl _ _ (N + 1) (N + 1 + 1) 31 53 #[.slice Sv.none.sa 0 Sv.none.sc, .slice Sv.none.ba 0 Sv.none.bc] #[.int .u32 0, .int .u64 0] (0, 0) (0, 0) _ _ rfl rfl (unhide HQD) (unhide HXD) stateUnd dotUnd rfl rfl stateInfo dotInfo) rfl ?_
    exact ⟨Sv.none, 0, 0, rfl, rfl, rfl, OwnT.none _ _, unhide HBE⟩
end Go.Proofs.Ytkcbljmjhlnjpaa
namespace Go.Proofs.Ytkcbljmjhlnjpaa.W
open Go.RowKit Go.Lib
theorem dg_inv (l : List UInt8) : ∀ (i v x u : Nat), i ≤ 9 → dg l i v = (x, u, 0) → ∃ y, x = v + y * 128 ^ i ∧ i < u ∧ u ≤ i + l.length ∧ (0 < i → 0 < y) ∧ uintB (9 - i) y = l.take (u - i) := by
  induction l with
  | nil => intro i v x u hi h; simp [dg] at h
  | cons d l ih =>
    intro i v x u hi h
    rw [dg, if_neg (by omega)] at h
    have hd := d.toNat_lt
    have ofd : UInt8.ofNat d.toNat = d := by simp
    by_cases h1 : i = 9 ∧ 1 < d.toNat
    · rw [if_pos h1] at h; simp at h
    · rw [if_neg h1] at h
      by_cases h2 : 128 ≤ d.toNat
      · rw [if_pos h2] at h
        have hi9 : i < 9 := by omega
        obtain ⟨y, hx, hu, hul, hy0, hy⟩ := ih (i + 1) _ x u (by omega) h
        have hy1 := hy0 (by omega)
        refine ⟨d.toNat % 128 + 128 * y, ?_, by omega, by simp; omega, by omega, ?_⟩
        · rw [hx, Nat.pow_succ, Nat.add_mul, Nat.mul_comm 128 y, Nat.mul_assoc, Nat.mul_comm 128 (128 ^ i)]; omega
        · rw [show 9 - i = (9 - (i + 1)) + 1 from by omega, uintB, if_neg (by omega)]
          rw [show (d.toNat % 128 + 128 * y) / 128 = y from by omega, hy]
          rw [show u - i = (u - (i + 1)) + 1 from by omega, List.take_succ_cons]
          congr 1
          rw [show (d.toNat % 128 + 128 * y) % 128 + 128 = d.toNat from by omega]
          exact ofd
      · rw [if_neg h2] at h
        by_cases h3 : 0 < i ∧ d.toNat = 0
        · rw [if_pos h3] at h; simp at h
        · rw [if_neg h3] at h
          simp only [Prod.mk.injEq, and_true] at h
          obtain ⟨rfl, rfl⟩ := h
          refine ⟨d.toNat, by rw [Nat.mod_eq_of_lt (by omega)], by omega, by simp, by omega, ?_⟩
          rw [show i + 1 - i = 1 from by omega, List.take_succ_cons, List.take_zero]
          have : ∀ f, uintB f d.toNat = [d] := by
            intro f
            cases f with
            | zero => rw [uintB, ofd]
            | succ f => rw [uintB, if_pos (by omega), ofd]
          exact this _
/-- to the base 128 -/
theorem uint_ok (s : ByteArray) (p most : Nat) (h : (uintS s p 0 most).2.2 = 0) : p ≤ (uintS s p 0 most).2.1 ∧ ((uintS s p 0 most).2.1 ≤ s.size ∨ s.size < p) ∧ uintB 9 (uintS s p 0 most).1 = (s.data.toList.drop p).take ((uintS s p 0 most).2.1 - p) := by
  unfold uintS at h ⊢
  rw [if_neg (by simp)] at h ⊢
  by_cases h1 : (dg (s.data.toList.drop p) 0 0).2.2 ≠ 0
  · rw [if_pos h1] at h; exact absurd h h1
  · rw [if_neg h1] at h ⊢
    by_cases h2 : most < (dg (s.data.toList.drop p) 0 0).1
    · rw [if_pos h2] at h; cases h
    · rw [if_neg h2]
      have hz : (dg (s.data.toList.drop p) 0 0).2.2 = 0 := by simpa using h1
      obtain ⟨y, hx, hu, hul, _, hy⟩ := dg_inv (s.data.toList.drop p) 0 0 (dg (s.data.toList.drop p) 0 0).1 (dg (s.data.toList.drop p) 0 0).2.1 (by omega) (by rw [← hz])
      rw [List.length_drop, size_toList] at hul
      simp only at hx ⊢
      refine ⟨by omega, by omega, ?_⟩
      rw [hx]
      simp only [Nat.zero_add, Nat.pow_zero, Nat.mul_one, Nat.sub_zero] at hy ⊢
      rw [hy]
      congr 1
      omega
theorem ofNat_toNat (y : Nat) (h : y < 256) : (UInt8.ofNat y).toNat = y := by simp; omega
theorem dg_fwd (rest : List UInt8) : ∀ (f i v y : Nat), i + f = 9 → y < 2 * 128 ^ f → (0 < i → 0 < y) → dg (uintB f y ++ rest) i v = (v + y * 128 ^ i, i + (uintB f y).length, 0) := by
  intro f
  induction f with
  | zero =>
    intro i v y hi hy h0
    have hy1 : y < 2 := by simpa using hy
    have := h0 (by omega)
    have e : (UInt8.ofNat y).toNat = y := ofNat_toNat y (by omega)
    rw [uintB, List.singleton_append, dg, e, if_neg (by omega), if_neg (by omega), if_neg (by omega), if_neg (by omega), Nat.mod_eq_of_lt (by omega)]
    rfl
  | succ f ih =>
    intro i v y hi hy h0
    rw [uintB]
    by_cases h : y < 128
    · have e : (UInt8.ofNat y).toNat = y := ofNat_toNat y (by omega)
      rw [if_pos h, List.singleton_append, dg, e, if_neg (by omega), if_neg (by omega), if_neg (by omega), if_neg (by omega), Nat.mod_eq_of_lt (by omega)]
      rfl
    · have e : (UInt8.ofNat (y % 128 + 128)).toNat = y % 128 + 128 := ofNat_toNat _ (by omega)
      rw [if_neg h, List.cons_append, dg, e, if_neg (by omega), if_neg (by omega), if_pos (by omega)]
      rw [ih (i + 1) _ (y / 128) (by omega) (by rw [Nat.pow_succ] at hy; omega) (by omega)]
      rw [show (y % 128 + 128) % 128 = y % 128 from by omega, Nat.pow_succ, List.length_cons]
      refine Prod.ext ?_ (Prod.ext ?_ rfl)
      · show v + y % 128 * 128 ^ i + y / 128 * (128 ^ i * 128) = v + y * 128 ^ i
        have e2 : y = y % 128 + 128 * (y / 128) := by omega
        conv => rhs; rw [e2]
        rw [Nat.add_mul, Nat.mul_comm (128 ^ i) 128, ← Nat.mul_assoc, Nat.mul_comm (y / 128) 128]
        omega
      · show i + 1 + _ = i + (_ + 1)
        omega
theorem uint_fwd {s : ByteArray} {p v most : Nat} {t : List UInt8} (h : s.data.toList.drop p = uintB 9 v ++ t) (hv : v < 18446744073709551616) (hm : v ≤ most) : uintS s p 0 most = (v, p + (uintB 9 v).length, 0) := by
  unfold uintS
  rw [if_neg (by simp), h, dg_fwd t 9 0 0 v (by omega) (by omega) (by omega)]
  simp only [Nat.zero_add, Nat.pow_zero, Nat.mul_one, ne_eq, not_true_eq_false, if_false]
  rw [if_neg (by omega)]
end Go.Proofs.Ytkcbljmjhlnjpaa.W
namespace Go.Proofs.Ytkcbljmjhlnjpaa
open Go.RowKit

theorem drop_app {l a t : List UInt8} {p : Nat} (h : l.drop p = a ++ t) : l.drop (p + a.length) = t := by
  rw [← List.drop_drop, h, List.drop_append_of_le_length (Nat.le_refl _)]; simp
def Small (l : List (Nat × Nat)) : Prop := ∀ d ∈ l, d.1 ≤ 4294967295 ∧ d.2 ≤ 1099511627776
theorem tkD_fwd (s : ByteArray) : ∀ (l : List (Nat × Nat)) (p : Nat) (t : List UInt8), Small l → s.data.toList.drop p = dotsB l ++ t → tkD s l.length p 0 = (l, p + (dotsB l).length, 0)
  | [], p, t, _, _ => by simp [tkD, dotsB]
  | d :: l, p, t, hs, h => by
    have hd := hs d (List.mem_cons_self ..)
    have e : dotsB (d :: l) = W.uintB 9 d.1 ++ (W.uintB 9 d.2 ++ dotsB l) := by simp [dotsB, dotB]
    rw [e, List.append_assoc] at h
    have h1 := W.uint_fwd (s := s) (p := p) (most := 4294967295) h (by omega) hd.1
    have h' := drop_app h
    rw [List.append_assoc] at h'
    have h2 := W.uint_fwd (s := s) (p := p + (W.uintB 9 d.1).length) (most := 1099511627776) h' (by omega) hd.2
    have h3 := tkD_fwd s l _ t (fun x hx => hs x (List.mem_cons_of_mem _ hx)) (drop_app h')
    rw [List.length_cons, tkD_succ, h1]
    simp only [h2, h3]
    rw [e]
    simp only [List.length_append, Nat.add_assoc]
theorem small_ok {l : List (Nat × Nat)} (h : V.Ok l) (hf : Fits l) : Small l := fun d hd => ⟨by have := (hf d hd).1; omega, (h.pos d hd).2⟩
theorem tkV_fwd (s : ByteArray) (l : List (Nat × Nat)) (p : Nat) (t : List UInt8) (hs : Small l) (hl : l.length ≤ 64) (h : s.data.toList.drop p = vecB l ++ t) : tkV s p 0 = (l, p + (vecB l).length, 0) := by
  unfold vecB at h
  rw [List.append_assoc] at h
  have h1 := W.uint_fwd (s := s) (p := p) (most := 64) h (by omega) hl
  have h3 := tkD_fwd s l _ t hs (drop_app h)
  unfold tkV
  rw [h1]
  simp only [h3]
  unfold vecB
  simp only [List.length_append, Nat.add_assoc]
theorem dec_enc {l : List (Nat × Nat)} (h : V.Ok l) (hf : Fits l) : decV ⟨(vecB l).toArray⟩ = (l, 0) := by
  have hs : (⟨(vecB l).toArray⟩ : ByteArray).size = (vecB l).length := List.size_toArray
  have ht := tkV_fwd ⟨(vecB l).toArray⟩ l 0 [] (small_ok h hf) h.len (by simp)
  have he : takeE ⟨(vecB l).toArray⟩ 0 0 = 0 := by unfold takeE; rw [ht]; simp [V.okB_true.2 h]
  have hl : takeL ⟨(vecB l).toArray⟩ 0 0 = l := by unfold takeL; rw [he, ht]; simp
  unfold decV
  rw [he, hl, ht, hs]
  simp [W.endE]
theorem uintS_err (s : ByteArray) (p : Nat) {e : Int} (most : Nat) (h : e ≠ 0) : W.uintS s p e most = (0, p, e) := by unfold W.uintS; rw [if_pos h]
/-- where none is found wrong the bytes are those of the dots -/
theorem tkD_inv (s : ByteArray) : ∀ (n p : Nat), p ≤ s.size → (tkD s n p 0).2.2 = 0 → p ≤ (tkD s n p 0).2.1 ∧ (tkD s n p 0).2.1 ≤ s.size ∧ (tkD s n p 0).1.length = n ∧ dotsB (tkD s n p 0).1 = (s.data.toList.drop p).take ((tkD s n p 0).2.1 - p)
  | 0, p, hp, _ => by simp [tkD, dotsB, hp]
  | n + 1, p, hp, h => by
    rw [tkD_succ] at h ⊢
    by_cases h1 : (W.uintS s p 0 4294967295).2.2 = 0
    · have u1 := W.uint_ok s p 4294967295 h1
      rw [h1] at h ⊢
      generalize W.uintS s p 0 4294967295 = x at *
      obtain ⟨xa, px, ex⟩ := x
      simp only at h h1 u1 ⊢
      have hpx : px ≤ s.size := by rcases u1.2.1 with h | h; exact h; omega
      by_cases h2 : (W.uintS s px 0 1099511627776).2.2 = 0
      · have u2 := W.uint_ok s px 1099511627776 h2
        rw [h2] at h ⊢
        generalize W.uintS s px 0 1099511627776 = y at *
        obtain ⟨yc, py, ey⟩ := y
        simp only at h h2 u2 ⊢
        have hpy : py ≤ s.size := by rcases u2.2.1 with h | h; exact h; omega
        have ih := tkD_inv s n py hpy h
        generalize tkD s n py 0 = z at *
        obtain ⟨l, pz, ez⟩ := z
        simp only at ih ⊢
        refine ⟨by omega, ih.2.1, by rw [List.length_cons, ih.2.2.1], ?_⟩
        rw [show dotsB ((xa, yc) :: l) = W.uintB 9 xa ++ (W.uintB 9 yc ++ dotsB l) by simp [dotsB, dotB], u1.2.2, u2.2.2, ih.2.2.2]
        have e1 : s.data.toList.drop px = (s.data.toList.drop p).drop (px - p) := by rw [List.drop_drop]; congr 1; omega
        have e2 : s.data.toList.drop py = (s.data.toList.drop p).drop (py - p) := by rw [List.drop_drop]; congr 1; omega
        rw [e1, e2]
        generalize s.data.toList.drop p = L
        have f1 : (L.drop (px - p)).take (py - px) ++ (L.drop (py - p)).take (pz - py) = (L.drop (px - p)).take (pz - px) := by
          rw [show py - p = (px - p) + (py - px) by omega, ← List.drop_drop, show pz - px = (py - px) + (pz - py) by omega, List.take_add]
        rw [f1, show pz - p = (px - p) + (pz - px) by omega, List.take_add]
      · exfalso
        generalize W.uintS s px 0 1099511627776 = y at *
        obtain ⟨yc, py, ey⟩ := y
        simp only at h h2
        rw [tkD_err _ _ _ h2] at h
        exact h2 h
    · exfalso
      generalize W.uintS s p 0 4294967295 = x at *
      obtain ⟨xa, px, ex⟩ := x
      simp only at h h1
      rw [uintS_err s px _ h1] at h
      simp only at h
      rw [tkD_err _ _ _ h1] at h
      exact h1 h
theorem tkV_inv (s : ByteArray) (h : (tkV s 0 0).2.2 = 0) : (tkV s 0 0).2.1 ≤ s.size ∧ vecB (tkV s 0 0).1 = s.data.toList.take (tkV s 0 0).2.1 := by
  unfold tkV at h ⊢
  by_cases h1 : (W.uintS s 0 0 64).2.2 = 0
  · have u1 := W.uint_ok s 0 64 h1
    rw [h1] at h ⊢
    generalize W.uintS s 0 0 64 = x at *
    obtain ⟨n, px, ex⟩ := x
    simp only at h h1 u1 ⊢
    have hpx : px ≤ s.size := by rcases u1.2.1 with h | h; exact h; omega
    have ih := tkD_inv s n px hpx h
    generalize tkD s n px 0 = z at *
    obtain ⟨l, pz, ez⟩ := z
    simp only at ih ⊢
    refine ⟨ih.2.1, ?_⟩
    unfold vecB
    rw [ih.2.2.1, u1.2.2, ih.2.2.2]
    simp only [List.drop_zero, Nat.sub_zero]
    rw [show pz = px + (pz - px) by omega, List.take_add]
    congr 2
    omega
  · exfalso
    generalize W.uintS s 0 0 64 = x at *
    obtain ⟨n, px, ex⟩ := x
    simp only at h h1
    rw [tkD_err _ _ _ h1] at h
    exact h1 h
theorem dec_cases (s : ByteArray) : (∃ l, decV s = (l, 0) ∧ V.Ok l ∧ Fits l ∧ (⟨(vecB l).toArray⟩ : ByteArray) = s) ∨ decV s = ([], 100) := by
  unfold decV
  by_cases h : W.endE s.size (tkV s 0 0).2.1 (takeE s 0 0) = 0
  · rw [if_pos h]
    left
    unfold W.endE at h
    split at h
    · rename_i he
      split at h
      · cases h
      · rename_i hp
        have hok : V.okB (tkV s 0 0).1 = true := by
          cases hk : V.okB (tkV s 0 0).1
          · exfalso
            unfold takeE at he
            rw [hk] at he
            simp only [Bool.false_eq_true, if_false] at he
            unfold W.failE at he
            split at he
            · cases he
            · rename_i h0; exact h0 he
          · rfl
        have h0 : (tkV s 0 0).2.2 = 0 := by unfold takeE at he; rw [hok] at he; simpa using he
        have hi := tkV_inv s h0
        refine ⟨takeL s 0 0, rfl, ?_, ?_, ?_⟩
        · unfold takeL; rw [if_pos he]; exact V.okB_true.1 hok
        · unfold takeL; rw [if_pos he]; exact (tkV_fits s 0 0).1
        · have : takeL s 0 0 = (tkV s 0 0).1 := by unfold takeL; rw [if_pos he]
          rw [this, hi.2, show (tkV s 0 0).2.1 = s.data.toList.length by rw [Array.length_toList]; show _ = s.size; omega, List.take_length]
    · rename_i he; exact absurd h he
  · rw [if_neg h]; exact .inr rfl
end Go.Proofs.Ytkcbljmjhlnjpaa
