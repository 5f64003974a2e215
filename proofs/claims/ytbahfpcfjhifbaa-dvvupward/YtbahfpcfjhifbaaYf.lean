/- States: the lesser of two siblings; are two lists of siblings one. -/
import Derived.Test.YtbahfpcfjhifbaaYe
namespace Go.Proofs.Ytbahfpcfjhifbaa
open Go.RowKit Go.Lib
theorem entCO : ∀ args (w : World), (callFunc 41 args).run Try.prog w = .ok (.enter 41 args) w := by
  intro args w
  unfold callFunc
  kernel_rfl
theorem entCB : ∀ args (w : World), (callFunc 107 args).run Try.prog w = .ok (.enter 107 args) w := by
  intro args w
  unfold callFunc
  kernel_rfl
theorem entLs : ∀ args (w : World), (callFunc 79 args).run Try.prog w = .ok (.enter 79 args) w := by
  intro args w
  unfold callFunc
  kernel_rfl
theorem entAh : ∀ args (w : World), (callFunc 40 args).run Try.prog w = .ok (.enter 40 args) w := by
  intro args w
  unfold callFunc
  kernel_rfl

/-- a contract as one of a drawn region -/
theorem asV {P : Program} {F : FuncId} {xs : Array Value} {w : World} {r : Value} {R : World → Prop} (h : Calls P F xs w fun e w' => e = .returned r ∧ R w') : Calls P F xs w fun e w' => ∃ v, e = .returned v ∧ v = r ∧ R w' := h.mono fun _ _ ⟨h1, h2⟩ => ⟨r, h1, rfl, h2⟩
set_option maxRecDepth 100000 in
set_option maxHeartbeats 2000000 in
theorem dLesser (x y : Sb) (u : World) : Calls Try.prog 79 #[x.v, y.v] u fun e u' => e = .returned (less x y).v ∧ Below u.heap.size u u' := by
  have hmix : Try.prog.follows .mixedOrders = true := by kernel_rfl
  obtain ⟨N, hN⟩ : ∃ N, N = u.heap.size := ⟨_, rfl⟩
  have HN := hide hN
  rw [← hN]
  clear hN
  have HC1 := hide (fun (W : World) => asV (dContentOf y W))
  have HC2 := hide (fun (W : World) => asV (dContentOf x W))
  have HC3 := hide (fun (W : World) => asV (dBelowC y.gone x.gone y.val x.val W))
  have HT : Hid (ctl y.gone y.val x.gone x.val = true → less x y = y) := fun h => by unfold less; rw [show cl y x = true from h]; rfl
  have HF : Hid (ctl y.gone y.val x.gone x.val = false → less x y = x) := fun h => by unfold less; rw [show cl y x = false from h]; rfl
  generalize less x y = z at *
  generalize ctl y.gone y.val x.gone x.val = r at *
  go_enter Try.func79, Try.ntmps79
  go_wp2_with (first
    | ((with_reducible refine wpList_box_sib (by rfl) (.tmp 0) (by rfl) (some 2) (by rfl) N (unhide HN) x (by with_unfolding_all rfl) ?_); intro W1 HX1 HB1 HS1; simp only [Act.put, List.setIfInBounds_toArray, List.set_cons_zero, List.set_cons_succ])
    | ((with_reducible refine wpList_box_sib (by rfl) (.tmp 1) (by rfl) (some 3) (by rfl) (N + 1) (unhide HS1).symm y (by with_unfolding_all rfl) ?_); intro W2 HX2 HB2 HS2; simp only [Act.put, List.setIfInBounds_toArray, List.set_cons_zero, List.set_cons_succ])
    | ((with_reducible refine wpList_alloc_sib (by rfl) (by rfl) (some 4) (by rfl) (N + 1 + 1) (unhide HS2).symm ?_); intro W3 HX3 HB3 HS3; simp only [Act.put, List.setIfInBounds_toArray, List.set_cons_zero, List.set_cons_succ])
    | fail)
  have HA1 : Hid (W3.heap[N]? = some (sibRow x)) := ((unhide HB3).block N (by omega)).trans (((unhide HB2).block N (Nat.lt_succ_self _)).trans (unhide HX1))
  have HA2 : Hid (W3.heap[N + 1]? = some (sibRow y)) := ((unhide HB3).block (N + 1) (Nat.lt_succ_self _)).trans (unhide HX2)
  have HB0 : Hid (Below N u W3) := (unhide HB1).trans (((unhide HB2).mono (Nat.le_succ _)).trans ((unhide HB3).mono (by omega)))
  clear HB1 HB2 HB3 HS1 HS2 HX1 HX2
  obtain ⟨M, hM⟩ : ∃ M, M = N + 1 + 1 + 1 := ⟨_, rfl⟩
  have HM : Hid (M = W3.heap.size) := by rw [hM]; exact (unhide HS3).symm
  have hC1 : ∀ W : World, Below M W3 W → W.cell? ⟨N, 0, none⟩ = some (.int .u32 (x.a : Int)) ∧ W.cell? ⟨N, 1, none⟩ = some (.int .u64 (x.c : Int)) ∧ W.cell? ⟨N, 2, none⟩ = some (.bool x.gone) ∧ W.cell? ⟨N, 3, none⟩ = some (.string x.val) := fun W hW => sib_cells ((hW.block N (by omega)).trans (unhide HA1))
  have hC2 : ∀ W : World, Below M W3 W → W.cell? ⟨N + 1, 0, none⟩ = some (.int .u32 (y.a : Int)) ∧ W.cell? ⟨N + 1, 1, none⟩ = some (.int .u64 (y.c : Int)) ∧ W.cell? ⟨N + 1, 2, none⟩ = some (.bool y.gone) ∧ W.cell? ⟨N + 1, 3, none⟩ = some (.string y.val) := fun W hW => sib_cells ((hW.block (N + 1) (by omega)).trans (unhide HA2))
  have HQ : Hid (∀ W : World, Below M W3 W → W.heap[N + 1 + 1]? = some (.cells #[.int .u32 0, .int .u64 0, .bool false, .string ⟨#[]⟩] 56 (0, 0))) := fun W hW => (hW.block (N + 1 + 1) (by omega)).trans (unhide HX3)
  have HU : Hid (∀ W : World, Below M W3 W → Below N u W) := fun W hW => (unhide HB0).trans (hW.mono (by omega))
  have HSZ : Hid (∀ W : World, Below M W3 W → M ≤ W.heap.size) := fun W hW => by rw [unhide HM]; exact hW.size
  have HMN : Hid (N ≤ N + 1 + 1) := by show N ≤ N + 1 + 1; omega
  clear hM HS3 HA1 HA2 HX3
  refine wp_region_last (fun W => Below M W3 W) 4 hmix (belowDrew (by rw [unhide HM]; exact Below.refl _ _)) fun hS => ?_
  generalize W3.drew = X0 at hS ⊢
  refine wpAnyL_take 0 5 (y.v) [1] rfl rfl (by kernel_rfl) (by kernel_rfl) (by kernel_rfl) (by kernel_rfl) (by kernel_rfl) (fun _ _ _ h => h) (by rfl) (fun W hW => by obtain ⟨e1, e2, e3, e4⟩ := hC2 W hW; unfold Sb.v; go_simp) hS ?_
  simp only [Act.put, List.setIfInBounds_toArray, List.set_cons_zero, List.set_cons_succ]
  refine wpAnyL_take 2 7 (x.v) [3] rfl rfl (by kernel_rfl) (by kernel_rfl) (by kernel_rfl) (by kernel_rfl) (by kernel_rfl) (fun _ _ _ h => h) (by rfl) (fun W hW => by obtain ⟨e1, e2, e3, e4⟩ := hC1 W hW; unfold Sb.v; go_simp) hS ?_
  simp only [Act.put, List.setIfInBounds_toArray, List.set_cons_zero, List.set_cons_succ]
  refine wpAnyL_one (i := 1) (by kernel_rfl) rfl (by rfl) fun K hK => ?_
  refine wp_call_fn 41 _ _ (by rfl) #[y.v] (by with_unfolding_all rfl) entCO (some 6) (by rfl) _ (unhide HC1 _) ?_
  rintro _ X1 ⟨rfl, hbe⟩
  have HB1 : Hid (Below M W3 X1) := hS.trans (hbe.mono (unhide HSZ _ hS))
  clear hbe
  refine hK _ _ (fun _ => unhide HB1) ?_
  clear hK K
  simp only [Act.put, List.setIfInBounds_toArray, List.set_cons_zero, List.set_cons_succ]
  refine wpAnyL_one (i := 3) (by kernel_rfl) rfl (by rfl) fun K hK => ?_
  refine wp_call_fn 41 _ _ (by rfl) #[x.v] (by with_unfolding_all rfl) entCO (some 8) (by rfl) _ (unhide HC2 _) ?_
  rintro _ X2 ⟨rfl, hbe⟩
  have HB2 : Hid (Below M W3 X2) := (unhide HB1).trans (hbe.mono (unhide HSZ _ (unhide HB1)))
  clear hbe
  refine hK _ _ (fun _ => unhide HB2) ?_
  clear hK K
  simp only [Act.put, List.setIfInBounds_toArray, List.set_cons_zero, List.set_cons_succ]
  refine wpAnyL_one (i := 4) (by kernel_rfl) rfl (by rfl) fun K hK => ?_
  refine wp_call_fn 107 _ _ (by rfl) #[.agg #[.bool y.gone, .string y.val], .agg #[.bool x.gone, .string x.val]] (by with_unfolding_all rfl) entCB (some 9) (by rfl) _ (unhide HC3 _) ?_
  rintro _ X3 ⟨rfl, hbe⟩
  have HB3 : Hid (Below M W3 X3) := (unhide HB2).trans (hbe.mono (unhide HSZ _ (unhide HB2)))
  clear hbe
  refine hK _ _ (fun _ => unhide HB3) ?_
  clear hK K
  simp only [Act.put, List.setIfInBounds_toArray, List.set_cons_zero, List.set_cons_succ]
  refine wpAnyL_done (by kernel_rfl) ?_ _
  cases r
  · have HZ := hide (unhide HF rfl)
    obtain ⟨e1, e2, e3, e4⟩ := hC1 X3 (unhide HB3)
    go_wp2_with (first
      | ((with_reducible refine wpList_store_sib (by rfl) (.tmp 4) (.tmp 11) (by rfl) (N + 1 + 1) x (by with_unfolding_all rfl) (by with_unfolding_all rfl) (unhide HQ _ (unhide HB3)) ?_); intro W4 HX4 HE4; simp only [Act.put])
      | fail)
    refine bodyPost_ret (results_cell rfl _ _ (N + 1 + 1) 56 #[.int .u32 (x.a : Int), .int .u64 (x.c : Int), .bool x.gone, .string x.val] (0, 0) _ rfl (unhide HX4) sibUnd rfl sibInfo) rfl ?_
    exact ⟨by rw [unhide HZ]; rfl, by rw [unhide HE4]; exact belowRow (unhide HU _ (unhide HB3)) (unhide HMN) _⟩
  · have HZ := hide (unhide HT rfl)
    obtain ⟨e1, e2, e3, e4⟩ := hC2 X3 (unhide HB3)
    go_wp2_with (first
      | ((with_reducible refine wpList_store_sib (by rfl) (.tmp 4) (.tmp 10) (by rfl) (N + 1 + 1) y (by with_unfolding_all rfl) (by with_unfolding_all rfl) (unhide HQ _ (unhide HB3)) ?_); intro W4 HX4 HE4; simp only [Act.put])
      | fail)
    refine bodyPost_ret (results_cell rfl _ _ (N + 1 + 1) 56 #[.int .u32 (y.a : Int), .int .u64 (y.c : Int), .bool y.gone, .string y.val] (0, 0) _ rfl (unhide HX4) sibUnd rfl sibInfo) rfl ?_
    exact ⟨by rw [unhide HZ]; rfl, by rw [unhide HE4]; exact belowRow (unhide HU _ (unhide HB3)) (unhide HMN) _⟩
theorem list_extS {l m : List Sb} (h : l.length = m.length) (he : ∀ j (h1 : j < l.length) (h2 : j < m.length), l[j] = m[j]) : l = m := List.ext_getElem h he
open Classical in
noncomputable def eqL (l m : List Sb) : Bool := decide (l = m)
open Classical in
theorem eqL_true {l m : List Sb} (h : l = m) : eqL l m = true := decide_eq_true h
open Classical in
theorem eqL_false {l m : List Sb} (h : l ≠ m) : eqL l m = false := decide_eq_false h
set_option maxRecDepth 100000 in
set_option maxHeartbeats 2000000 in
theorem dEqualS (l m : List Sb) (ao bo : Option Addr) (c d : Nat) (u : World) (h : Sa u l ao c) (h2 : Sa u m bo d) : Calls Try.prog 47 #[.slice ao l.length c, .slice bo m.length d] u fun e u' => e = .returned (.bool (eqL l m)) ∧ ∃ z, u' = u.drewN z := by
  have hl0 := h.len
  have HQ := hide h.lies
  have HP := hide h2.lies
  clear h h2
  by_cases hlm : l.length = m.length
  · have HE : Hid (∀ j (h1 : j < l.length) (h2 : j < m.length), l[j] ≠ m[j] → eqL l m = false) := fun j h1 h2 hn => eqL_false fun e => hn (by subst e; rfl)
    have HT : Hid ((∀ j (h1 : j < l.length) (h2 : j < m.length), l[j] = m[j]) → eqL l m = true) := fun he => eqL_true (list_extS hlm he)
    generalize eqL l m = ok at *
    obtain ⟨n, hn⟩ : ∃ n, n = l.length := ⟨_, rfl⟩
    have HLN := hide hn
    have HMN : Hid (n = m.length) := hn.trans hlm
    rw [show m.length = n from (unhide HMN).symm]
    rw [← hn] at hl0 ⊢
    have hni : (n : Int) ≤ 3518437208780 := by omega
    clear hn hl0 hlm
    go_enter Try.func47, Try.ntmps47
    go_wp2
    go_loopw [13] (fun i wr => ∃ k : Nat, k ≤ n ∧ i = .int .i64 k ∧ Hid (∃ z, wr = u.drewN z) ∧ Hid (∀ j (h1 : j < l.length) (h2 : j < m.length), j < k → l[j] = m[j])) (fun i _ => n - (intOf i).toNat)
    case atStart => exact ⟨0, Nat.zero_le _, rfl, ⟨0, rfl⟩, fun j _ _ hj => absurd hj (Nat.not_lt_zero _)⟩
    case round =>
      obtain ⟨k, hk, rfl, HI, HJ⟩ := hrel
      obtain ⟨z, rfl⟩ := unhide HI
      clear HI
      by_cases hlt : k < n
      · have hki : (k : Int) < (n : Int) := by omega
        have hkl : k < l.length := by rw [← unhide HLN]; exact hlt
        have hkm : k < m.length := by rw [← unhide HMN]; exact hlt
        obtain ⟨g, o, hao, c1, c2, c3, c4⟩ := (unhide HQ).sb hkl
        obtain ⟨g2, o2, hao2, d1, d2, d3, d4⟩ := (unhide HP).sb hkm
        subst hao hao2
        have hix := ixS g o n c k hlt
        have hix2 := ixS g2 o2 n d k hlt
        have HE1 := hide (unhide HE k hkl hkm)
        have HR : Hid (l[k] = m[k] → ∀ j (h1 : j < l.length) (h2 : j < m.length), j < k + 1 → l[j] = m[j]) := fun hg j hj hj2 hjk => by
          rcases Nat.lt_succ_iff_lt_or_eq.1 hjk with h | rfl
          · exact unhide HJ j hj hj2 h
          · exact hg
        clear HE HJ
        generalize l[k] = q at *
        generalize m[k] = p at *
        have c1 : u.cell? ⟨g, o + k * 4, none⟩ = some (.int .u32 (q.a : Int)) := c1
        have c2 : u.cell? ⟨g, o + k * 4 + 1, none⟩ = some (.int .u64 (q.c : Int)) := c2
        have c3 : u.cell? ⟨g, o + k * 4 + 2, none⟩ = some (.bool q.gone) := c3
        have c4 : u.cell? ⟨g, o + k * 4 + 3, none⟩ = some (.string q.val) := c4
        generalize o + k * 4 = j1 at *
        generalize o2 + k * 4 = j2 at *
        by_cases hqp : q = p
        · have HG := hide (unhide HR hqp)
          subst hqp
          have heq : ∀ W : World, (binOp .neq 56 (.agg #[.int .u32 (q.a : Int), .int .u64 (q.c : Int), .bool q.gone, .string q.val]) (.agg #[.int .u32 (q.a : Int), .int .u64 (q.c : Int), .bool q.gone, .string q.val])).run Try.prog W = .ok (.bool false) W := fun W => by have := neqS q q W; rw [eqB_true.2 rfl] at this; exact this
          go_wp2_with fail
          go_quiet (fail)
          go_wp2
          go_roundw
          case rel => exact ⟨k + 1, by omega, by go_num, ⟨z + nq, rfl⟩, unhide HG⟩
          case measure => simp [intOf]; omega
        · have HB := hide (unhide HE1 hqp)
          have heq : ∀ W : World, (binOp .neq 56 (.agg #[.int .u32 (q.a : Int), .int .u64 (q.c : Int), .bool q.gone, .string q.val]) (.agg #[.int .u32 (p.a : Int), .int .u64 (p.c : Int), .bool p.gone, .string p.val])).run Try.prog W = .ok (.bool true) W := fun W => by have := neqS q p W; rw [eqB_false.2 hqp] at this; exact this
          clear hqp HE1
          go_wp2_with fail
          go_quiet (fail)
          go_wp2
          go_ret
          exact ⟨by rw [unhide HB]; rfl, z + nq, by simp [World.drewN_drewN]⟩
      · obtain rfl : k = n := by omega
        have hki : ¬ (k : Int) < (k : Int) := by omega
        have HB := hide (unhide HT fun j h1 h2 => unhide HJ j h1 h2 (by rw [unhide HLN]; exact h1))
        go_wp2
        go_ret
        exact ⟨by rw [unhide HB]; rfl, z, rfl⟩
  · rw [eqL_false (fun e : l = m => hlm (by rw [e]))]
    have hi : ¬ (l.length : Int) = (m.length : Int) := by omega
    go_enter Try.func47, Try.ntmps47
    go_wp2
    go_ret
    exact ⟨rfl, 0, rfl⟩
end Go.Proofs.Ytbahfpcfjhifbaa
