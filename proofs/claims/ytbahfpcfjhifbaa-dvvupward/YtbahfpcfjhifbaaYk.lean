/- States: Below; what is wrong with a put, and its dot. -/
import Derived.Test.YtbahfpcfjhifbaaYj
import Derived.Test.YtbahfpcfjhifbaaXib
namespace Go.Proofs.Ytbahfpcfjhifbaa
open Go.RowKit Go.Lib
open Classical in
theorem sbelB_iff {a b : St} : sbelB a b = true ↔ SOk a ∧ SOk b ∧ sbel a b := by unfold sbelB; rw [decide_eq_true_iff]
open Classical in
theorem sameB_iff {a b : St} : sameB a b = true ↔ a = b := by unfold sameB; rw [decide_eq_true_iff]
/-- Below by Join -/
theorem sbel_join (a b : St) : ((joinV a b).2 = 0 ∧ (joinV a b).1 = b) ↔ sbelB a b = true := by
  rw [sbelB_iff]
  constructor
  · rintro ⟨h1, h2⟩
    by_cases hab : SOk a ∧ SOk b
    · by_cases hl : (V.mrg a.seen b.seen).length ≤ 64 ∧ (jnS a b).sibs.length ≤ 64
      · rw [join_ok hab.1 hab.2 hl.1 hl.2] at h2
        exact ⟨hab.1, hab.2, (jnS_eq_iff hab.1.toSV hab.2.toSV).1 h2⟩
      · rw [join_big hab.1 hab.2 hl] at h1; cases h1
    · rw [join_not hab] at h1; cases h1
  · rintro ⟨ha, hb, h⟩
    have e := (jnS_eq_iff ha.toSV hb.toSV).2 h
    rw [join_ok ha hb (by have := hb.slen; rw [← e] at this; exact this) (by rw [e]; exact hb.len)]
    exact ⟨rfl, e⟩
set_option maxRecDepth 100000 in
set_option maxHeartbeats 4000000 in
theorem dBelow (a b : St) (v w : Sv) (u : World) (ha : SAt u a v) (hb : SAt u b w) : Calls Try.prog 19 #[v.v a.seen.length a.sibs.length, w.v b.seen.length b.sibs.length] u fun e u' => e = .returned (.bool (sbelB a b)) ∧ Below u.heap.size u u' := by
  obtain ⟨N, hN⟩ : ∃ N, N = u.heap.size := ⟨_, rfl⟩
  have HN := hide hN
  have HA := hide ha
  have HB := hide hb
  rw [← hN]
  obtain ⟨n1, hn1⟩ : ∃ n, n = a.seen.length := ⟨_, rfl⟩
  obtain ⟨m1, hm1⟩ : ∃ n, n = a.sibs.length := ⟨_, rfl⟩
  obtain ⟨n2, hn2⟩ : ∃ n, n = b.seen.length := ⟨_, rfl⟩
  obtain ⟨m2, hm2⟩ : ∃ n, n = b.sibs.length := ⟨_, rfl⟩
  have hs := sbel_join a b
  have hfit : (joinV a b).2 = 0 → SOk (joinV a b).1 ∧ FitT (joinV a b).1 := fun h => by
    by_cases hab : SOk a ∧ SOk b
    · by_cases hl : (V.mrg a.seen b.seen).length ≤ 64 ∧ (jnS a b).sibs.length ≤ 64
      · rw [join_ok hab.1 hab.2 hl.1 hl.2]
        exact ⟨jnS_ok hab.1 hab.2 hl.1 hl.2, fit_jn ha.fit hb.fit⟩
      · rw [join_big hab.1 hab.2 hl] at h; cases h
    · rw [join_not hab] at h; cases h
  obtain ⟨J, r, hJ⟩ : ∃ J r, joinV a b = (J, r) := ⟨_, _, rfl⟩
  have HJ : Hid (∀ W : World, SAt W a v → SAt W b w → Calls Try.prog 26 #[v.v n1 m1, w.v n2 m2] W fun e u' => ∃ x n m, e = .returned (.tuple #[Sv.v x n m, .int .i64 r]) ∧ n = J.seen.length ∧ m = J.sibs.length ∧ OwnT u' W.heap.size J x ∧ Below W.heap.size W u') := fun W h1 h2 => by rw [hn1, hm1, hn2, hm2]; exact dJoin a b v w W h1 h2 J r hJ
  have HS : Hid (∀ (W : World) (x : Sv) (n m : Nat), n = J.seen.length → m = J.sibs.length → SAt W J x → SAt W b w → Calls Try.prog 17 #[x.v n m, w.v n2 m2] W fun e u' => e = .returned (.bool (sameB J b)) ∧ Below W.heap.size W u') := fun W x n m e1 e2 h1 h2 => by rw [hn2, hm2, e1, e2]; exact dSame J b x w W h1 h2
  rw [hJ] at hs hfit
  have HFIT := hide hfit
  rw [← hn1, ← hm1, ← hn2, ← hm2]
  clear hn1 hm1 hn2 hm2 ha hb hN hfit hJ
  by_cases hr : r = 0
  · have HR : Hid (sbelB a b = sameB J b) := by
      rw [Bool.eq_iff_iff, ← hs, sameB_iff]
      exact ⟨fun h => h.2, fun h => ⟨hr, h⟩⟩
    have HF := hide (unhide HFIT hr)
    have hr0 : r = 0 := hr
    subst hr0
    clear hs hr HFIT
    go_enter Try.func19, Try.ntmps19
    go_wp2_with (first
      | ((with_reducible refine wpList_box_state (by rfl) (.tmp 0) (by rfl) (some 2) (by rfl) N (unhide HN) v n1 m1 (by with_unfolding_all rfl) ?_); intro W1 HX1 HB1 HS1; simp only [Act.put, List.setIfInBounds_toArray, List.set_cons_zero, List.set_cons_succ])
      | ((with_reducible refine wpList_box_state (by rfl) (.tmp 1) (by rfl) (some 3) (by rfl) (N + 1) (unhide HS1).symm w n2 m2 (by with_unfolding_all rfl) ?_); intro W2 HX2 HB2 HS2; simp only [Act.put, List.setIfInBounds_toArray, List.set_cons_zero, List.set_cons_succ]; have HY1 : Hid (W2.heap[N]? = some (stRow v n1 m1)) := ((unhide HB2).block N (Nat.lt_succ_self _)).trans (unhide HX1); have HBU : Hid (Below N u W2) := (unhide HB1).trans ((unhide HB2).mono (Nat.le_succ _)); have HA3 := hide ((unhide HA).below (by rw [← unhide HN]; exact unhide HBU)); have HB4 := hide ((unhide HB).below (by rw [← unhide HN]; exact unhide HBU)); obtain ⟨x0, x1⟩ := st_cells (unhide HY1); obtain ⟨y0, y1⟩ := st_cells (unhide HX2))
      | (go_at_call 26; refine (unhide HJ W2 (unhide HA3) (unhide HB4)).mono ?_; rintro e W5 ⟨x, n, m, rfl, h1, h2, h3, h4⟩; have HW5 := hide h4; have HO5 := hide h3; have HN5 := hide h1; have HM5 := hide h2; clear h1 h2 h3 h4; obtain ⟨N5, hN5⟩ : ∃ k, k = W5.heap.size := ⟨_, rfl⟩; have HN6 := hide hN5; clear hN5)
      | ((with_reducible refine wpList_alloc_state (by rfl) (by rfl) (some 5) (by rfl) N5 (unhide HN6) ?_); intro W6 HX6 HB6 HS6; simp only [Act.put, List.setIfInBounds_toArray, List.set_cons_zero, List.set_cons_succ])
      | ((with_reducible refine wpList_store_state (by rfl) (.tmp 5) (.tmp 11) (by rfl) N5 x n m (by with_unfolding_all rfl) (by with_unfolding_all rfl) Sv.none 0 0 (unhide HX6) ?_); intro W7 HX7 HE7; simp only [Act.put]; have HB7 : Hid (Below W5.heap.size W5 W7) := (by rw [unhide HE7, ← unhide HN6]; exact belowRow (unhide HB6) (Nat.le_refl _) _); obtain ⟨z0, z1⟩ := st_cells (unhide HX7); obtain ⟨y0, y1⟩ := st_cells (box_below (unhide HX2) ((unhide HW5).trans ((unhide HB7).mono (unhide HW5).size))))
      | (go_at_call 17; refine (unhide HS W7 x n m (unhide HN5) (unhide HM5) (((unhide HO5).at (unhide HF).2 (unhide HF).1).below (unhide HB7)) ((unhide HB4).below ((unhide HW5).trans ((unhide HB7).mono (unhide HW5).size)))).mono ?_; rintro e W8 ⟨rfl, h8⟩)
      | fail)
    go_ret
    exact ⟨by rw [unhide HR]; simp, (unhide HBU).trans (((unhide HW5).trans (((unhide HB7).trans (h8.mono (unhide HB7).size)).mono (unhide HW5).size)).mono (by rw [unhide HS2]; omega))⟩
  · have HR : Hid (sbelB a b = false) := by
      rw [← Bool.not_eq_true, ← hs]; exact fun h => hr h.1
    have hrb : (r == 0) = false := by simpa using hr
    clear hs HFIT
    go_enter Try.func19, Try.ntmps19
    go_wp2_with (first
      | ((with_reducible refine wpList_box_state (by rfl) (.tmp 0) (by rfl) (some 2) (by rfl) N (unhide HN) v n1 m1 (by with_unfolding_all rfl) ?_); intro W1 HX1 HB1 HS1; simp only [Act.put, List.setIfInBounds_toArray, List.set_cons_zero, List.set_cons_succ])
      | ((with_reducible refine wpList_box_state (by rfl) (.tmp 1) (by rfl) (some 3) (by rfl) (N + 1) (unhide HS1).symm w n2 m2 (by with_unfolding_all rfl) ?_); intro W2 HX2 HB2 HS2; simp only [Act.put, List.setIfInBounds_toArray, List.set_cons_zero, List.set_cons_succ]; have HY1 : Hid (W2.heap[N]? = some (stRow v n1 m1)) := ((unhide HB2).block N (Nat.lt_succ_self _)).trans (unhide HX1); have HBU : Hid (Below N u W2) := (unhide HB1).trans ((unhide HB2).mono (Nat.le_succ _)); have HA3 := hide ((unhide HA).below (by rw [← unhide HN]; exact unhide HBU)); have HB4 := hide ((unhide HB).below (by rw [← unhide HN]; exact unhide HBU)); obtain ⟨x0, x1⟩ := st_cells (unhide HY1); obtain ⟨y0, y1⟩ := st_cells (unhide HX2))
      | (go_at_call 26; refine (unhide HJ W2 (unhide HA3) (unhide HB4)).mono ?_; rintro e W5 ⟨x, n, m, rfl, h1, h2, h3, h4⟩; have HW5 := hide h4; clear h1 h2 h3 h4; obtain ⟨N5, hN5⟩ : ∃ k, k = W5.heap.size := ⟨_, rfl⟩; have HN6 := hide hN5; clear hN5)
      | ((with_reducible refine wpList_alloc_state (by rfl) (by rfl) (some 5) (by rfl) N5 (unhide HN6) ?_); intro W6 HX6 HB6 HS6; simp only [Act.put, List.setIfInBounds_toArray, List.set_cons_zero, List.set_cons_succ])
      | ((with_reducible refine wpList_store_state (by rfl) (.tmp 5) (.tmp 11) (by rfl) N5 x n m (by with_unfolding_all rfl) (by with_unfolding_all rfl) Sv.none 0 0 (unhide HX6) ?_); intro W7 HX7 HE7; simp only [Act.put]; have HB7 : Hid (Below W5.heap.size W5 W7) := (by rw [unhide HE7, ← unhide HN6]; exact belowRow (unhide HB6) (Nat.le_refl _) _))
      | fail)
    go_ret
    exact ⟨by rw [unhide HR]; rfl, (unhide HBU).trans (((unhide HW5).trans ((unhide HB7).mono (unhide HW5).size)).mono (by rw [unhide HS2]; omega))⟩
/-- the greatest count of an actor that either tells -/
noncomputable def topc (seen ctx : List (Nat × Nat)) (x : Nat) : Nat := max (V.cnt seen x) (V.cnt ctx x)
set_option maxRecDepth 100000 in
set_option maxHeartbeats 2000000 in
theorem dNext (a b : List (Nat × Nat)) (xa xb : Option Addr) (ca cb na nb x : Nat) (ea : na = a.length) (eb : nb = b.length) (u : World) (ha : Da u a xa ca) (hb : Da u b xb cb) (oa : V.Ok a) (ob : V.Ok b) (d : Nat × Nat) (r : Int) (h1 : topc a b x = 1099511627776 → d = (0, 0) ∧ r = 101) (h2 : topc a b x ≠ 1099511627776 → d = (x, topc a b x + 1) ∧ r = 0) :
    Calls Try.prog 59 #[.slice xa na ca, .slice xb nb cb, .int .u32 (x : Int)] u fun e u' => e = .returned (.tuple #[.agg #[.int .u32 (d.1 : Int), .int .u64 (d.2 : Int)], .int .i64 r]) ∧ Below u.heap.size u u' := by
  obtain ⟨N, hN⟩ : ∃ N, N = u.heap.size := ⟨_, rfl⟩
  have HN := hide hN
  have HA := hide ha
  have HB := hide hb
  have HC1 : Hid (∀ W : World, Below u.heap.size u W → Calls Try.prog 74 #[.slice xa na ca, .int .u32 (x : Int)] W fun e W' => e = .returned (.int .u64 (V.cnt a x : Nat)) ∧ Below W.heap.size W W') := fun W hW => kCount x _ (cnt_ok oa x) ea (ha.below hW) W (Below.refl _ _)
  have HC2 : Hid (∀ W : World, Below u.heap.size u W → Calls Try.prog 74 #[.slice xb nb cb, .int .u32 (x : Int)] W fun e W' => e = .returned (.int .u64 (V.cnt b x : Nat)) ∧ Below W.heap.size W W') := fun W hW => kCount x _ (cnt_ok ob x) eb (hb.below hW) W (Below.refl _ _)
  have hle : topc a b x ≤ 1099511627776 := by have := V.cnt_le oa.pos x; have := V.cnt_le ob.pos x; unfold topc; omega
  have hc1 := V.cnt_le oa.pos x
  have hc2 := V.cnt_le ob.pos x
  have hT : topc a b x = max (V.cnt a x) (V.cnt b x) := rfl
  rw [← hN] at HC1 HC2 ⊢
  clear hN ha hb oa ob ea eb
  generalize V.cnt a x = p at *
  generalize V.cnt b x = q at *
  have hmxr : ∀ (ts : Array TypeId) (t : TypeId) (W : World), (Builtin.max_ ts t #[.int .u64 (p : Int), .int .u64 (q : Int)]).run Try.prog W = .ok (.int .u64 (topc a b x : Nat)) W := fun ts t W => by rw [run_max_int2, hT]; congr 2; split <;> omega
  generalize topc a b x = t at *
  have HLE := hide hle
  clear hT hle hc1 hc2
  by_cases ht : t = 1099511627776
  · obtain ⟨rfl, rfl⟩ := h1 ht
    have hti : (t : Int) = 1099511627776 := by omega
    clear h1 h2 ht
    go_enter Try.func59, Try.ntmps59
    go_wp2_with (first
      | ((with_reducible refine wpList_alloc_dot (by rfl) (by rfl) (some 6) (by rfl) N (unhide HN) ?_); intro W1 HX1 HB1 HS1; simp only [Act.put, List.setIfInBounds_toArray, List.set_cons_zero, List.set_cons_succ])
      | (go_at_call 74; refine (unhide HC1 W1 (unhide HB1)).mono ?_; rintro e W2 ⟨rfl, hb2⟩; have HB2 := hide hb2; clear hb2 HC1)
      | (go_at_call 74; refine (unhide HC2 W2 ((unhide HB1).trans ((unhide HB2).mono (by rw [unhide HS1]; omega)))).mono ?_; rintro e W3 ⟨rfl, hb3⟩; have HB3 : Hid (Below W1.heap.size W1 W3) := (unhide HB2).trans (hb3.mono (unhide HB2).size); clear hb3)
      | ((with_reducible refine wpList_store_dot (by rfl) (.tmp 6) (.tmp 18) (by rfl) N 0 0 (by with_unfolding_all rfl) (by with_unfolding_all rfl) (box_below (unhide HX1) (unhide HB3)) ?_); intro W4 HX4 HE4; simp only [Act.put])
      | fail)
    refine bodyPost_ret (results_cell_tmp rfl _ _ N 43 #[.int .u32 0, .int .u64 0] (0, 0) _ rfl (unhide HX4) dotUnd rfl dotInfo) rfl ?_
    exact ⟨rfl, by rw [unhide HE4]; exact belowRow ((unhide HB1).trans ((unhide HB3).mono (by rw [unhide HS1]; omega))) (Nat.le_refl _) _⟩
  · obtain ⟨rfl, rfl⟩ := h2 ht
    have hti : ((t : Int) == 1099511627776) = false := by simp; omega
    have htj : ¬ (t : Int) = 1099511627776 := by omega
    have hw : IntKind.u64.wrap ((t : Int) + 1) = ((t + 1 : Nat) : Int) := by have := unhide HLE; rw [IntKind.wrap_u64]; omega
    generalize t + 1 = t1 at *
    clear h1 h2 ht
    go_enter Try.func59, Try.ntmps59
    go_wp2_with (first
      | ((with_reducible refine wpList_alloc_dot (by rfl) (by rfl) (some 6) (by rfl) N (unhide HN) ?_); intro W1 HX1 HB1 HS1; simp only [Act.put, List.setIfInBounds_toArray, List.set_cons_zero, List.set_cons_succ])
      | (go_at_call 74; refine (unhide HC1 W1 (unhide HB1)).mono ?_; rintro e W2 ⟨rfl, hb2⟩; have HB2 := hide hb2; clear hb2 HC1)
      | (go_at_call 74; refine (unhide HC2 W2 ((unhide HB1).trans ((unhide HB2).mono (by rw [unhide HS1]; omega)))).mono ?_; rintro e W3 ⟨rfl, hb3⟩; have HB3 : Hid (Below W1.heap.size W1 W3) := (unhide HB2).trans (hb3.mono (unhide HB2).size); clear hb3)
      | ((with_reducible refine wpList_store_dot (by rfl) (.tmp 6) (.tmp 22) (by rfl) N (x : Int) (t1 : Int) (by with_unfolding_all rfl) (by with_unfolding_all rfl) (box_below (unhide HX1) (unhide HB3)) ?_); intro W4 HX4 HE4; simp only [Act.put])
      | fail)
    refine bodyPost_ret (results_cell_tmp rfl _ _ N 43 #[.int .u32 (x : Int), .int .u64 (t1 : Int)] (0, 0) _ rfl (unhide HX4) dotUnd rfl dotInfo) rfl ?_
    exact ⟨rfl, by rw [unhide HE4]; exact belowRow ((unhide HB1).trans ((unhide HB3).mono (by rw [unhide HS1]; omega))) (Nat.le_refl _) _⟩
open Classical in
/-- what is wrong with a put -/
noncomputable def wrongE (s : St) (ctx : List (Nat × Nat)) (g : Bool) (v : ByteArray) : Int := if ¬ SOk s then 110 else if ¬ V.Ok ctx then 100 else if mayB g v = false then 131 else 0
set_option maxRecDepth 100000 in
set_option maxHeartbeats 2000000 in
theorem dWrong (s : St) (v : Sv) (ctx : List (Nat × Nat)) (xc : Option Addr) (cc nc : Nat) (ec : nc = ctx.length) (g : Bool) (t : ByteArray) (ht : t.size ≤ 140737488355328) (u : World) (hs : SAt u s v) (hc : Da u ctx xc cc) :
    Calls Try.prog 58 #[v.v s.seen.length s.sibs.length, .slice xc nc cc, .agg #[.bool g, .string t]] u fun e u' => e = .returned (.int .i64 (wrongE s ctx g t)) ∧ Below u.heap.size u u' := by
  obtain ⟨N, hN⟩ : ∃ N, N = u.heap.size := ⟨_, rfl⟩
  have HN := hide hN
  have HA := hide hs
  have HB := hide hc
  rw [← hN]
  obtain ⟨n1, hn1⟩ : ∃ n, n = s.seen.length := ⟨_, rfl⟩
  obtain ⟨m1, hm1⟩ : ∃ n, n = s.sibs.length := ⟨_, rfl⟩
  have HV1 : Hid (∀ W : World, SAt W s v → Calls Try.prog 15 #[v.v n1 m1] W fun e W' => e = .returned (.bool (sokB s)) ∧ Below W.heap.size W W') := fun W h => by rw [hn1, hm1]; exact dValid' s v W h
  have HV2 : Hid (∀ W : World, Da W ctx xc cc → Calls Try.prog 39 #[.slice xc nc cc] W fun e W' => e = .returned (.bool (V.okB ctx)) ∧ Below W.heap.size W W') := fun W h => kValid _ rfl ec h W (Below.refl _ _)
  have HV3 : Hid (∀ W : World, Calls Try.prog 42 #[.agg #[.bool g, .string t]] W fun e W' => e = .returned (.bool (mayB g t)) ∧ Below W.heap.size W W') := fun W => dMayBe g t W ht
  rw [← hn1, ← hm1]
  clear hN hs hc hn1 hm1 ec
  have HU : Hid (∀ W : World, Below N u W → Below u.heap.size u W) := fun W hW => by rw [← unhide HN]; exact hW
  by_cases os : SOk s
  · rw [sokB_true.2 os] at HV1
    by_cases oc : V.Ok ctx
    · rw [V.okB_true.2 oc] at HV2
      cases hm : mayB g t
      · rw [show wrongE s ctx g t = 131 by unfold wrongE; rw [if_neg (fun h => h os), if_neg (fun h => h oc), if_pos hm]]
        rw [hm] at HV3
        clear os oc hm
        go_enter Try.func58, Try.ntmps58
        go_wp2_with (first
          | ((with_reducible refine wpList_box_state (by rfl) (.tmp 0) (by rfl) (some 3) (by rfl) N (unhide HN) v n1 m1 (by with_unfolding_all rfl) ?_); intro W1 HX1 HB1 HS1; simp only [Act.put, List.setIfInBounds_toArray, List.set_cons_zero, List.set_cons_succ])
          | ((with_reducible refine wpList_box_ct (by rfl) (.tmp 2) (by rfl) (some 5) (by rfl) (N + 1) (unhide HS1).symm g t (by with_unfolding_all rfl) ?_); intro W2 HX2 HB2 HS2; simp only [Act.put, List.setIfInBounds_toArray, List.set_cons_zero, List.set_cons_succ]; have HY1 : Hid (W2.heap[N]? = some (stRow v n1 m1)) := ((unhide HB2).block N (Nat.lt_succ_self _)).trans (unhide HX1); have HBU : Hid (Below N u W2) := (unhide HB1).trans ((unhide HB2).mono (Nat.le_succ _)); have HA2 := hide ((unhide HA).below (unhide HU _ (unhide HBU))); have HB3 := hide ((unhide HB).below (unhide HU _ (unhide HBU))); obtain ⟨x0, x1⟩ := st_cells (unhide HY1))
          | (go_at_call 15; refine (unhide HV1 W2 (unhide HA2)).mono ?_; rintro e W3 ⟨rfl, hb3⟩; have HW3 := hide hb3; clear hb3)
          | (go_at_call 39; refine (unhide HV2 W3 ((unhide HB3).below (unhide HW3))).mono ?_; rintro e W4 ⟨rfl, hb4⟩; have HW4 : Hid (Below W2.heap.size W2 W4) := (unhide HW3).trans (hb4.mono (unhide HW3).size); clear hb4; obtain ⟨y0, y1⟩ := box2 (box_below (unhide HX2) (unhide HW4)))
          | (go_at_call 42; refine (unhide HV3 W4).mono ?_; rintro e W5 ⟨rfl, hb5⟩; have HW5 : Hid (Below W2.heap.size W2 W5) := (unhide HW4).trans (hb5.mono (unhide HW4).size); clear hb5)
          | fail)
        go_ret
        exact ⟨rfl, (unhide HBU).trans ((unhide HW5).mono (by rw [unhide HS2]; omega))⟩
      · rw [show wrongE s ctx g t = 0 by unfold wrongE; rw [if_neg (fun h => h os), if_neg (fun h => h oc), if_neg (by rw [hm]; decide)]]
        rw [hm] at HV3
        clear os oc hm
        go_enter Try.func58, Try.ntmps58
        go_wp2_with (first
          | ((with_reducible refine wpList_box_state (by rfl) (.tmp 0) (by rfl) (some 3) (by rfl) N (unhide HN) v n1 m1 (by with_unfolding_all rfl) ?_); intro W1 HX1 HB1 HS1; simp only [Act.put, List.setIfInBounds_toArray, List.set_cons_zero, List.set_cons_succ])
          | ((with_reducible refine wpList_box_ct (by rfl) (.tmp 2) (by rfl) (some 5) (by rfl) (N + 1) (unhide HS1).symm g t (by with_unfolding_all rfl) ?_); intro W2 HX2 HB2 HS2; simp only [Act.put, List.setIfInBounds_toArray, List.set_cons_zero, List.set_cons_succ]; have HY1 : Hid (W2.heap[N]? = some (stRow v n1 m1)) := ((unhide HB2).block N (Nat.lt_succ_self _)).trans (unhide HX1); have HBU : Hid (Below N u W2) := (unhide HB1).trans ((unhide HB2).mono (Nat.le_succ _)); have HA2 := hide ((unhide HA).below (unhide HU _ (unhide HBU))); have HB3 := hide ((unhide HB).below (unhide HU _ (unhide HBU))); obtain ⟨x0, x1⟩ := st_cells (unhide HY1))
          | (go_at_call 15; refine (unhide HV1 W2 (unhide HA2)).mono ?_; rintro e W3 ⟨rfl, hb3⟩; have HW3 := hide hb3; clear hb3)
          | (go_at_call 39; refine (unhide HV2 W3 ((unhide HB3).below (unhide HW3))).mono ?_; rintro e W4 ⟨rfl, hb4⟩; have HW4 : Hid (Below W2.heap.size W2 W4) := (unhide HW3).trans (hb4.mono (unhide HW3).size); clear hb4; obtain ⟨y0, y1⟩ := box2 (box_below (unhide HX2) (unhide HW4)))
          | (go_at_call 42; refine (unhide HV3 W4).mono ?_; rintro e W5 ⟨rfl, hb5⟩; have HW5 : Hid (Below W2.heap.size W2 W5) := (unhide HW4).trans (hb5.mono (unhide HW4).size); clear hb5)
          | fail)
        go_ret
        exact ⟨rfl, (unhide HBU).trans ((unhide HW5).mono (by rw [unhide HS2]; omega))⟩
    · rw [V.okB_false.2 oc] at HV2
      rw [show wrongE s ctx g t = 100 by unfold wrongE; rw [if_neg (fun h => h os), if_pos oc]]
      clear os oc HV3
      go_enter Try.func58, Try.ntmps58
      go_wp2_with (first
        | ((with_reducible refine wpList_box_state (by rfl) (.tmp 0) (by rfl) (some 3) (by rfl) N (unhide HN) v n1 m1 (by with_unfolding_all rfl) ?_); intro W1 HX1 HB1 HS1; simp only [Act.put, List.setIfInBounds_toArray, List.set_cons_zero, List.set_cons_succ])
        | ((with_reducible refine wpList_box_ct (by rfl) (.tmp 2) (by rfl) (some 5) (by rfl) (N + 1) (unhide HS1).symm g t (by with_unfolding_all rfl) ?_); intro W2 HX2 HB2 HS2; simp only [Act.put, List.setIfInBounds_toArray, List.set_cons_zero, List.set_cons_succ]; have HY1 : Hid (W2.heap[N]? = some (stRow v n1 m1)) := ((unhide HB2).block N (Nat.lt_succ_self _)).trans (unhide HX1); have HBU : Hid (Below N u W2) := (unhide HB1).trans ((unhide HB2).mono (Nat.le_succ _)); have HA2 := hide ((unhide HA).below (unhide HU _ (unhide HBU))); have HB3 := hide ((unhide HB).below (unhide HU _ (unhide HBU))); obtain ⟨x0, x1⟩ := st_cells (unhide HY1))
        | (go_at_call 15; refine (unhide HV1 W2 (unhide HA2)).mono ?_; rintro e W3 ⟨rfl, hb3⟩; have HW3 := hide hb3; clear hb3)
        | (go_at_call 39; refine (unhide HV2 W3 ((unhide HB3).below (unhide HW3))).mono ?_; rintro e W4 ⟨rfl, hb4⟩; have HW4 : Hid (Below W2.heap.size W2 W4) := (unhide HW3).trans (hb4.mono (unhide HW3).size); clear hb4; obtain ⟨y0, y1⟩ := box2 (box_below (unhide HX2) (unhide HW4)))
        | fail)
      go_ret
      exact ⟨rfl, (unhide HBU).trans ((unhide HW4).mono (by rw [unhide HS2]; omega))⟩
  · rw [sokB_false.2 os] at HV1
    rw [show wrongE s ctx g t = 110 by unfold wrongE; rw [if_pos os]]
    clear os HV2 HV3
    go_enter Try.func58, Try.ntmps58
    go_wp2_with (first
      | ((with_reducible refine wpList_box_state (by rfl) (.tmp 0) (by rfl) (some 3) (by rfl) N (unhide HN) v n1 m1 (by with_unfolding_all rfl) ?_); intro W1 HX1 HB1 HS1; simp only [Act.put, List.setIfInBounds_toArray, List.set_cons_zero, List.set_cons_succ])
      | ((with_reducible refine wpList_box_ct (by rfl) (.tmp 2) (by rfl) (some 5) (by rfl) (N + 1) (unhide HS1).symm g t (by with_unfolding_all rfl) ?_); intro W2 HX2 HB2 HS2; simp only [Act.put, List.setIfInBounds_toArray, List.set_cons_zero, List.set_cons_succ]; have HY1 : Hid (W2.heap[N]? = some (stRow v n1 m1)) := ((unhide HB2).block N (Nat.lt_succ_self _)).trans (unhide HX1); have HBU : Hid (Below N u W2) := (unhide HB1).trans ((unhide HB2).mono (Nat.le_succ _)); have HA2 := hide ((unhide HA).below (unhide HU _ (unhide HBU))); have HB3 := hide ((unhide HB).below (unhide HU _ (unhide HBU))); obtain ⟨x0, x1⟩ := st_cells (unhide HY1))
      | (go_at_call 15; refine (unhide HV1 W2 (unhide HA2)).mono ?_; rintro e W3 ⟨rfl, hb3⟩; have HW3 := hide hb3; clear hb3)
      | fail)
    go_ret
    exact ⟨rfl, (unhide HBU).trans ((unhide HW3).mono (by rw [unhide HS2]; omega))⟩
end Go.Proofs.Ytbahfpcfjhifbaa
