/- Put together out of Yf, Xk, Xm, Xn, Xo, Xl, Xp, Xq. -/
import Derived.Test.YtkcbljmjhlnjpaaQ05
import Derived.Deep.DeepCutAuto
namespace Go.Proofs.Ytkcbljmjhlnjpaa
open Go.RowKit Go.Lib
theorem entCO : ∀ args (w : World), (callFunc 125 args).run Try.prog w = .ok (.enter 125 args) w := by
  intro args w
  unfold callFunc
  kernel_rfl
theorem entCB : ∀ args (w : World), (callFunc 156 args).run Try.prog w = .ok (.enter 156 args) w := by
  intro args w
  unfold callFunc
  kernel_rfl
theorem entLs : ∀ args (w : World), (callFunc 132 args).run Try.prog w = .ok (.enter 132 args) w := by
  intro args w
  unfold callFunc
  kernel_rfl
theorem entAh : ∀ args (w : World), (callFunc 123 args).run Try.prog w = .ok (.enter 123 args) w := by
  intro args w
  unfold callFunc
  kernel_rfl

/-- a contract as one of a drawn region -/
theorem asV {P : Program} {F : FuncId} {xs : Array Value} {w : World} {r : Value} {R : World → Prop} (h : Calls P F xs w fun e w' => e = .returned r ∧ R w') : Calls P F xs w fun e w' => ∃ v, e = .returned v ∧ v = r ∧ R w' := h.mono fun _ _ ⟨h1, h2⟩ => ⟨r, h1, rfl, h2⟩
set_option maxRecDepth 100000 in
set_option maxHeartbeats 2000000 in
theorem dLesser (x y : Sb) (u : World) : Calls Try.prog 132 #[x.v, y.v] u fun e u' => e = .returned (less x y).v ∧ Below u.heap.size u u' := by
  have hmix : Try.prog.follows .mixedOrders = true := by kernel_rfl
  obtain ⟨N, hN⟩ : ∃ N, N = u.heap.size := ⟨_, rfl⟩
  have HN := hide hN
  rw [← hN]
  clear hN
  have HC1 := hide (fun (W : World) => asV (dContentOf y W))
  have HC2 := hide (fun (W : World) => asV (dContentOf x W))
  have HC3 := hide (fun (W : World) => asV (dBelowC y.gone x.gone y.val x.val W))
  have HT : Hid (ctl y.gone y.val x.gone x.val = true → less x y = y) := fun h => by unfold less; rw [show cl y x = true from h]; rfl
  have HF : Hid (ctl y.gone y.val x.gone x.val = false → less x y = x) := fun h => by unfold less; rw [show cl y x = false from h]; rfl
  generalize less x y = z at *
  generalize ctl y.gone y.val x.gone x.val = r at *
  go_enter Try.func132, Try.ntmps132
  go_wp2_with (first
    | ((with_reducible refine wpList_box_sib (by rfl) (.tmp 0) (by rfl) (some 2) (by rfl) N (unhide HN) x (by with_unfolding_all rfl) ?_); intro W1 HX1 HB1 HS1; simp only [Act.put, List.setIfInBounds_toArray, List.set_cons_zero, List.set_cons_succ])
    | ((with_reducible refine wpList_box_sib (by rfl) (.tmp 1) (by rfl) (some 3) (by rfl) (N + 1) (unhide HS1).symm y (by with_unfolding_all rfl) ?_); intro W2 HX2 HB2 HS2; simp only [Act.put, List.setIfInBounds_toArray, List.set_cons_zero, List.set_cons_succ])
    | ((with_reducible refine wpList_alloc_sib (by rfl) (by rfl) (some 4) (by rfl) (N + 1 + 1) (unhide HS2).symm ?_); intro W3 HX3 HB3 HS3; simp only [Act.put, List.setIfInBounds_toArray, List.set_cons_zero, List.set_cons_succ])
    | fail)
  have HA1 : Hid (W3.heap[N]? = some (sibRow x)) := ((unhide HB3).block N (by omega)).trans (((unhide HB2).block N (Nat.lt_succ_self _)).trans (unhide HX1))
  have HA2 : Hid (W3.heap[N + 1]? = some (sibRow y)) := ((unhide HB3).block (N + 1) (Nat.lt_succ_self _)).trans (unhide HX2)
  have HB0 : Hid (Below N u W3) := (unhide HB1).trans (((unhide HB2).mono (Nat.le_succ _)).trans ((unhide HB3).mono (by omega)))
  clear HB1 HB2 HB3 HS1 HS2 HX1 HX2
  obtain ⟨M, hM⟩ : ∃ M, M = N + 1 + 1 + 1 := ⟨_, rfl⟩
  have HM : Hid (M = W3.heap.size) := by rw [hM]; exact (unhide HS3).symm
  have hC1 : ∀ W : World, Below M W3 W → W.cell? ⟨N, 0, none⟩ = some (.int .u32 (x.a : Int)) ∧ W.cell? ⟨N, 1, none⟩ = some (.int .u64 (x.c : Int)) ∧ W.cell? ⟨N, 2, none⟩ = some (.bool x.gone) ∧ W.cell? ⟨N, 3, none⟩ = some (.string x.val) := fun W hW => sib_cells ((hW.block N (by omega)).trans (unhide HA1))
  have hC2 : ∀ W : World, Below M W3 W → W.cell? ⟨N + 1, 0, none⟩ = some (.int .u32 (y.a : Int)) ∧ W.cell? ⟨N + 1, 1, none⟩ = some (.int .u64 (y.c : Int)) ∧ W.cell? ⟨N + 1, 2, none⟩ = some (.bool y.gone) ∧ W.cell? ⟨N + 1, 3, none⟩ = some (.string y.val) := fun W hW => sib_cells ((hW.block (N + 1) (by omega)).trans (unhide HA2))
  have HQ : Hid (∀ W : World, Below M W3 W → W.heap[N + 1 + 1]? = some (.cells #[.int .u32 0, .int .u64 0, .bool false, .string ⟨#[]⟩] 69 (0, 0))) := fun W hW => (hW.block (N + 1 + 1) (by omega)).trans (unhide HX3)
  have HU : Hid (∀ W : World, Below M W3 W → Below N u W) := fun W hW => (unhide HB0).trans (hW.mono (by omega))
  have HSZ : Hid (∀ W : World, Below M W3 W → M ≤ W.heap.size) := fun W hW => by rw [unhide HM]; exact hW.size
  have HMN : Hid (N ≤ N + 1 + 1) := by show N ≤ N + 1 + 1; omega
  clear hM HS3 HA1 HA2 HX3
  refine wp_region_last (fun W => Below M W3 W) 4 hmix (belowDrew (by rw [unhide HM]; exact Below.refl _ _)) fun hS => ?_
  generalize W3.drew = X0 at hS ⊢
  refine wpAnyL_take 0 5 (y.v) [1] rfl rfl (by kernel_rfl) (by kernel_rfl) (by kernel_rfl) (by kernel_rfl) (by kernel_rfl) (fun _ _ _ h => h) (by rfl) (fun W hW => by obtain ⟨e1, e2, e3, e4⟩ := hC2 W hW; unfold Sb.v; go_simp) hS ?_
  simp only [Act.put, List.setIfInBounds_toArray, List.set_cons_zero, List.set_cons_succ]
  refine wpAnyL_take 2 7 (x.v) [3] rfl rfl (by kernel_rfl) (by kernel_rfl) (by kernel_rfl) (by kernel_rfl) (by kernel_rfl) (fun _ _ _ h => h) (by rfl) (fun W hW => by obtain ⟨e1, e2, e3, e4⟩ := hC1 W hW; unfold Sb.v; go_simp) hS ?_
  simp only [Act.put, List.setIfInBounds_toArray, List.set_cons_zero, List.set_cons_succ]
  refine wpAnyL_one (i := 1) (by kernel_rfl) rfl (by rfl) fun K hK => ?_
  refine wp_call_fn 125 _ _ (by rfl) #[y.v] (by with_unfolding_all rfl) entCO (some 6) (by rfl) _ (unhide HC1 _) ?_
  rintro _ X1 ⟨rfl, hbe⟩
  have HB1 : Hid (Below M W3 X1) := hS.trans (hbe.mono (unhide HSZ _ hS))
  clear hbe
  refine hK _ _ (fun _ => unhide HB1) ?_
  clear hK K
  simp only [Act.put, List.setIfInBounds_toArray, List.set_cons_zero, List.set_cons_succ]
  refine wpAnyL_one (i := 3) (by kernel_rfl) rfl (by rfl) fun K hK => ?_
  refine wp_call_fn 125 _ _ (by rfl) #[x.v] (by with_unfolding_all rfl) entCO (some 8) (by rfl) _ (unhide HC2 _) ?_
  rintro _ X2 ⟨rfl, hbe⟩
  have HB2 : Hid (Below M W3 X2) := (unhide HB1).trans (hbe.mono (unhide HSZ _ (unhide HB1)))
  clear hbe
  refine hK _ _ (fun _ => unhide HB2) ?_
  clear hK K
  simp only [Act.put, List.setIfInBounds_toArray, List.set_cons_zero, List.set_cons_succ]
  refine wpAnyL_one (i := 4) (by kernel_rfl) rfl (by rfl) fun K hK => ?_
  refine wp_call_fn 156 _ _ (by rfl) #[.agg #[.bool y.gone, .string y.val], .agg #[.bool x.gone, .string x.val]] (by with_unfolding_all rfl) entCB (some 9) (by rfl) _ (unhide HC3 _) ?_
  rintro _ X3 ⟨rfl, hbe⟩
  have HB3 : Hid (Below M W3 X3) := (unhide HB2).trans (hbe.mono (unhide HSZ _ (unhide HB2)))
  clear hbe
  refine hK _ _ (fun _ => unhide HB3) ?_
  clear hK K
  simp only [Act.put, List.setIfInBounds_toArray, List.set_cons_zero, List.set_cons_succ]
  refine wpAnyL_done (by kernel_rfl) ?_ _
  cases r
  · have HZ := hide (unhide HF rfl)
    obtain ⟨e1, e2, e3, e4⟩ := hC1 X3 (unhide HB3)
    go_wp2_with (first
      | ((with_reducible refine wpList_store_sib (by rfl) (.tmp 4) (.tmp 11) (by rfl) (N + 1 + 1) x (by with_unfolding_all rfl) (by with_unfolding_all rfl) (unhide HQ _ (unhide HB3)) ?_); intro W4 HX4 HE4; simp only [Act.put])
      | fail)
    refine bodyPost_ret (results_cell rfl _ _ (N + 1 + 1) 69 #[.int .u32 (x.a : Int), .int .u64 (x.c : Int), .bool x.gone, .string x.val] (0, 0) _ rfl (unhide HX4) sibUnd rfl sibInfo) rfl ?_
    exact ⟨by rw [unhide HZ]; rfl, by rw [unhide HE4]; exact belowRow (unhide HU _ (unhide HB3)) (unhide HMN) _⟩
  · have HZ := hide (unhide HT rfl)
    obtain ⟨e1, e2, e3, e4⟩ := hC2 X3 (unhide HB3)
    go_wp2_with (first
      | ((with_reducible refine wpList_store_sib (by rfl) (.tmp 4) (.tmp 10) (by rfl) (N + 1 + 1) y (by with_unfolding_all rfl) (by with_unfolding_all rfl) (unhide HQ _ (unhide HB3)) ?_); intro W4 HX4 HE4; simp only [Act.put])
      | fail)
    refine bodyPost_ret (results_cell rfl _ _ (N + 1 + 1) 69 #[.int .u32 (y.a : Int), .int .u64 (y.c : Int), .bool y.gone, .string y.val] (0, 0) _ rfl (unhide HX4) sibUnd rfl sibInfo) rfl ?_
    exact ⟨by rw [unhide HZ]; rfl, by rw [unhide HE4]; exact belowRow (unhide HU _ (unhide HB3)) (unhide HMN) _⟩
theorem list_extS {l m : List Sb} (h : l.length = m.length) (he : ∀ j (h1 : j < l.length) (h2 : j < m.length), l[j] = m[j]) : l = m := List.ext_getElem h he
open Classical in
noncomputable def eqL (l m : List Sb) : Bool := decide (l = m)
open Classical in
theorem eqL_true {l m : List Sb} (h : l = m) : eqL l m = true := decide_eq_true h
open Classical in
theorem eqL_false {l m : List Sb} (h : l ≠ m) : eqL l m = false := decide_eq_false h
set_option maxRecDepth 100000 in
set_option maxHeartbeats 2000000 in
theorem dEqualS (l m : List Sb) (ao bo : Option Addr) (c d : Nat) (u : World) (h : Sa u l ao c) (h2 : Sa u m bo d) : Calls Try.prog 100 #[.slice ao l.length c, .slice bo m.length d] u fun e u' => e = .returned (.bool (eqL l m)) ∧ ∃ z, u' = u.drewN z := by
  have hl0 := h.len
  have HQ := hide h.lies
  have HP := hide h2.lies
  clear h h2
  by_cases hlm : l.length = m.length
  · have HE : Hid (∀ j (h1 : j < l.length) (h2 : j < m.length), l[j] ≠ m[j] → eqL l m = false) := fun j h1 h2 hn => eqL_false fun e => hn (by subst e; rfl)
    have HT : Hid ((∀ j (h1 : j < l.length) (h2 : j < m.length), l[j] = m[j]) → eqL l m = true) := fun he => eqL_true (list_extS hlm he)
    generalize eqL l m = ok at *
    obtain ⟨n, hn⟩ : ∃ n, n = l.length := ⟨_, rfl⟩
    have HLN := hide hn
    have HMN : Hid (n = m.length) := hn.trans hlm
    rw [show m.length = n from (unhide HMN).symm]
    rw [← hn] at hl0 ⊢
    have hni : (n : Int) ≤ 3518437208780 := by omega
    clear hn hl0 hlm
    go_enter Try.func100, Try.ntmps100
    go_wp2
    go_loopw [13] (fun i wr => ∃ k : Nat, k ≤ n ∧ i = .int .i64 k ∧ Hid (∃ z, wr = u.drewN z) ∧ Hid (∀ j (h1 : j < l.length) (h2 : j < m.length), j < k → l[j] = m[j])) (fun i _ => n - (intOf i).toNat)
    case atStart => exact ⟨0, Nat.zero_le _, rfl, ⟨0, rfl⟩, fun j _ _ hj => absurd hj (Nat.not_lt_zero _)⟩
    case round =>
      obtain ⟨k, hk, rfl, HI, HJ⟩ := hrel
      obtain ⟨z, rfl⟩ := unhide HI
      clear HI
      by_cases hlt : k < n
      · have hki : (k : Int) < (n : Int) := by omega
        have hkl : k < l.length := by rw [← unhide HLN]; exact hlt
        have hkm : k < m.length := by rw [← unhide HMN]; exact hlt
        obtain ⟨g, o, hao, c1, c2, c3, c4⟩ := (unhide HQ).sb hkl
        obtain ⟨g2, o2, hao2, d1, d2, d3, d4⟩ := (unhide HP).sb hkm
        subst hao hao2
        have hix := ixS g o n c k hlt
        have hix2 := ixS g2 o2 n d k hlt
        have HE1 := hide (unhide HE k hkl hkm)
        have HR : Hid (l[k] = m[k] → ∀ j (h1 : j < l.length) (h2 : j < m.length), j < k + 1 → l[j] = m[j]) := fun hg j hj hj2 hjk => by
          rcases Nat.lt_succ_iff_lt_or_eq.1 hjk with h | rfl
          · exact unhide HJ j hj hj2 h
          · exact hg
        clear HE HJ
        generalize l[k] = q at *
        generalize m[k] = p at *
        have c1 : u.cell? ⟨g, o + k * 4, none⟩ = some (.int .u32 (q.a : Int)) := c1
        have c2 : u.cell? ⟨g, o + k * 4 + 1, none⟩ = some (.int .u64 (q.c : Int)) := c2
        have c3 : u.cell? ⟨g, o + k * 4 + 2, none⟩ = some (.bool q.gone) := c3
        have c4 : u.cell? ⟨g, o + k * 4 + 3, none⟩ = some (.string q.val) := c4
        generalize o + k * 4 = j1 at *
        generalize o2 + k * 4 = j2 at *
        by_cases hqp : q = p
        · have HG := hide (unhide HR hqp)
          subst hqp
          have heq : ∀ W : World, (binOp .neq 69 (.agg #[.int .u32 (q.a : Int), .int .u64 (q.c : Int), .bool q.gone, .string q.val]) (.agg #[.int .u32 (q.a : Int), .int .u64 (q.c : Int), .bool q.gone, .string q.val])).run Try.prog W = .ok (.bool false) W := fun W => by have := neqS q q W; rw [eqB_true.2 rfl] at this; exact this
          go_wp2_with fail
          go_quiet (fail)
          go_wp2
          go_roundw
          case rel => exact ⟨k + 1, by omega, by go_num, ⟨z + nq, rfl⟩, unhide HG⟩
          case measure => simp [intOf]; omega
        · have HB := hide (unhide HE1 hqp)
          have heq : ∀ W : World, (binOp .neq 69 (.agg #[.int .u32 (q.a : Int), .int .u64 (q.c : Int), .bool q.gone, .string q.val]) (.agg #[.int .u32 (p.a : Int), .int .u64 (p.c : Int), .bool p.gone, .string p.val])).run Try.prog W = .ok (.bool true) W := fun W => by have := neqS q p W; rw [eqB_false.2 hqp] at this; exact this
          clear hqp HE1
          go_wp2_with fail
          go_quiet (fail)
          go_wp2
          go_ret
          exact ⟨by rw [unhide HB]; rfl, z + nq, by simp [World.drewN_drewN]⟩
      · obtain rfl : k = n := by omega
        have hki : ¬ (k : Int) < (k : Int) := by omega
        have HB := hide (unhide HT fun j h1 h2 => unhide HJ j h1 h2 (by rw [unhide HLN]; exact h1))
        go_wp2
        go_ret
        exact ⟨by rw [unhide HB]; rfl, z, rfl⟩
  · rw [eqL_false (fun e : l = m => hlm (by rw [e]))]
    have hi : ¬ (l.length : Int) = (m.length : Int) := by omega
    go_enter Try.func100, Try.ntmps100
    go_wp2
    go_ret
    exact ⟨rfl, 0, rfl⟩
end Go.Proofs.Ytkcbljmjhlnjpaa
namespace Go.Proofs.Ytkcbljmjhlnjpaa
open Go.RowKit
/-- what Below answers -/
noncomputable def belB (a b : List (Nat × Nat)) : Bool := V.okB a && V.okB b && decide (V.mrg a b = b)
open Classical in
theorem belB_iff {a b : List (Nat × Nat)} : belB a b = decide (V.Ok a ∧ V.Ok b ∧ V.Bel a b) := by
  rw [Bool.eq_iff_iff]
  unfold belB
  rw [Bool.and_eq_true, Bool.and_eq_true, V.okB_true, V.okB_true, decide_eq_true_iff, decide_eq_true_iff]
  constructor
  · rintro ⟨⟨h1, h2⟩, h3⟩; exact ⟨h1, h2, (V.mrg_eq_iff h1.toVec h2.toVec).1 h3⟩
  · rintro ⟨h1, h2, h3⟩; exact ⟨⟨h1, h2⟩, (V.mrg_eq_iff h1.toVec h2.toVec).2 h3⟩
open Classical in
theorem belB_true {a b : List (Nat × Nat)} (h1 : V.Ok a) (h2 : V.Ok b) : belB a b = true ↔ V.Bel a b := by
  rw [belB_iff, decide_eq_true_iff]
  exact ⟨fun h => h.2.2, fun h => ⟨h1, h2, h⟩⟩
theorem len_small {l : List (Nat × Nat)} (h : l.length ≤ 128) : l.length ≤ 140737488355328 := by omega
/-- what Compare answers -/
noncomputable def cmpV (a b : List (Nat × Nat)) : Int := if belB a b then (if belB b a then 0 else -1) else (if belB b a then 1 else 2)
end Go.Proofs.Ytkcbljmjhlnjpaa
namespace Go.Proofs.Ytkcbljmjhlnjpaa
open Go.RowKit
/-- a dot's bytes, dots' bytes, a vector's bytes -/
def dotB (d : Nat × Nat) : List UInt8 := W.uintB 9 d.1 ++ W.uintB 9 d.2
def dotsB (l : List (Nat × Nat)) : List UInt8 := l.flatMap dotB
def vecB (l : List (Nat × Nat)) : List UInt8 := W.uintB 9 l.length ++ dotsB l
theorem uintB_len (f v : Nat) : 1 ≤ (W.uintB f v).length ∧ (W.uintB f v).length ≤ f + 1 := by
  induction f generalizing v with
  | zero => simp [W.uintB]
  | succ f ih => simp only [W.uintB]; split <;> simp <;> have := ih (v / 128) <;> omega
theorem dotB_len (d : Nat × Nat) : (dotB d).length ≤ 20 := by
  have h1 := (uintB_len 9 d.1).2
  have h2 := (uintB_len 9 d.2).2
  simp only [dotB, List.length_append]; omega
theorem dotsB_len (l : List (Nat × Nat)) : (dotsB l).length ≤ 20 * l.length := by
  induction l with
  | nil => simp [dotsB]
  | cons d l ih =>
    have := dotB_len d
    simp only [dotsB, List.flatMap_cons, List.length_append, List.length_cons] at ih ⊢
    omega
theorem dotsB_take (l : List (Nat × Nat)) {k : Nat} (h : k < l.length) : dotsB (l.take (k + 1)) = dotsB (l.take k) ++ W.uintB 9 l[k].1 ++ W.uintB 9 l[k].2 := by
  rw [List.take_succ_eq_append_getElem h, dotsB, List.flatMap_append]
  simp [dotsB, dotB, List.append_assoc]
theorem Wr.below {w w' : World} {a r : Nat} {bs : List UInt8} (h : W.Wr w a r bs) (hb : Below w.heap.size w w') : W.Wr w' a r bs := W.Wr.same h hb.size (hb.block a h.1) (hb.block r h.2.1)
/-- a writer of one's own, behind the block B -/
structure Wn (u w : World) (B a r : Nat) (bs : List UInt8) : Prop where
  wr : W.Wr w a r bs
  below : Below B u w
  sz : B ≤ w.heap.size
  ha : B ≤ a
  hr : B ≤ r
theorem Wn.put {u w w' : World} {B a r r' : Nat} {bs bs' : List UInt8} (h : Wn u w B a r bs) (hp : W.Put w w' a r r' bs') : Wn u w' B a r' bs' :=
  ⟨hp.1, h.below.trans (hp.2.2.below h.sz h.ha h.hr), Nat.le_trans h.sz hp.2.2.size, h.ha, by rcases hp.2.1 with e | e; rw [e]; exact h.hr; exact Nat.le_trans h.sz e⟩
theorem Wn.belw {u w w' : World} {B a r : Nat} {bs : List UInt8} (h : Wn u w B a r bs) (hb : Below w.heap.size w w') : Wn u w' B a r bs :=
  ⟨Wr.below h.wr hb, h.below.trans (hb.mono h.sz), Nat.le_trans h.sz hb.size, h.ha, h.hr⟩
theorem Wn.max {u w : World} {B a r : Nat} {bs : List UInt8} (h : Wn u w B a r bs) : bs.length ≤ 140737488355328 := h.wr.2.2.1
set_option maxRecDepth 100000 in
set_option maxHeartbeats 4000000 in
theorem vPut (l : List (Nat × Nat)) (ao : Option Addr) (c a r : Nat) (bs : List UInt8) (u0 u : World) (h : DAt u0 l ao) (hw : Wn u0 u u0.heap.size a r bs) (hbs : bs.length ≤ 1000000) :
    Calls Try.prog 127 #[.pointer (some ⟨a, 0, none⟩), .slice ao l.length c] u fun e u' => ∃ r', (V.okB l = true → e = .returned (.int .i64 0) ∧ Wn u0 u' u0.heap.size a r' (bs ++ vecB l)) ∧ (V.okB l = false → e = .returned (.int .i64 100) ∧ Wn u0 u' u0.heap.size a r' bs) := by
  have HV := hide (vValid l ao c u (h.below hw.below))
  have HW := hide hw
  have HQ := hide h.lies
  have HF := hide h.fits
  have HX : Hid (∀ (w : World) (r : Nat) (bs : List UInt8) (v : Nat), Wn u0 w u0.heap.size a r bs → v < 18446744073709551616 → bs.length ≤ 1001300 → Calls Try.prog 128 #[.pointer (some ⟨a, 0, none⟩), .int .u64 (v : Int)] w fun e w' => e = .returned (.tuple #[]) ∧ ∃ r', Wn u0 w' u0.heap.size a r' (bs ++ W.uintB 9 v) ∧ W.Upd w w' a r) := fun w r bs v hw hv hb => by
    refine (W.wUint a r bs v w hw.wr hv (by omega)).mono ?_
    rintro e w' ⟨rfl, r', hp⟩
    exact ⟨rfl, r', hw.put hp, hp.2.2⟩
  clear h hw
  obtain ⟨N, hN⟩ : ∃ N, N = u0.heap.size := ⟨_, rfl⟩
  have HN := hide hN
  rw [← hN] at HW HX ⊢
  clear hN
  cases hok : V.okB l with
  | false =>
    rw [hok] at HV
    go_enter Try.func127, Try.ntmps127
    go_wp2_with (first | (go_at_call 122; refine (unhide HV).mono ?_; rintro e w1 ⟨rfl, hb1⟩) | fail)
    go_ret
    exact ⟨r, fun h => (by cases h), fun _ => ⟨rfl, (unhide HW).belw hb1⟩⟩
  | true =>
    rw [hok] at HV
    have hl64 : l.length ≤ 64 := (V.okB_true.1 hok).len
    have HE : Hid (bs ++ vecB l = bs ++ W.uintB 9 l.length ++ dotsB (l.take l.length)) := by rw [List.take_length, vecB, List.append_assoc]; exact rfl
    have HL : Hid (∀ k, k ≤ l.length → (bs ++ W.uintB 9 l.length ++ dotsB (l.take k)).length ≤ 1001290) := fun k hk => by
      have h1 := (uintB_len 9 l.length).2
      have h2 := dotsB_len (l.take k)
      rw [List.length_take] at h2
      simp only [List.length_append]
      omega
    have HT := hide (fun k (hk : k < l.length) => dotsB_take l hk)
    obtain ⟨n, hn⟩ : ∃ n, n = l.length := ⟨_, rfl⟩
    have HLN := hide hn
    rw [← hn] at hl64 HV HE HL ⊢
    have h64i : (n : Int) ≤ 64 := by omega
    have hcv : IntKind.u64.wrap (n : Int) = (n : Int) := by rw [IntKind.wrap_u64]; omega
    clear hn hok
    go_enter Try.func127, Try.ntmps127
    go_wp2_with (first
      | (go_at_call 122; refine (unhide HV).mono ?_; rintro e w1 ⟨rfl, hb1⟩; have HW1 := hide ((unhide HW).belw hb1); clear hb1)
      | (go_at_call 128; refine (unhide HX _ r bs n (unhide HW1) (by omega) (by omega)).mono ?_; rintro e w2 ⟨rfl, r2, hw2, _⟩; have HW2 := hide hw2; clear hw2)
      | fail)
    go_loopw [19] (fun i wr => ∃ (k : Nat), k ≤ n ∧ i = .int .i64 k ∧ Hid (∃ r', Wn u0 wr N a r' (bs ++ W.uintB 9 n ++ dotsB (l.take k)))) (fun i _ => n - (intOf i).toNat)
    case atStart => exact ⟨0, Nat.zero_le _, rfl, r2, by rw [List.take_zero, show dotsB [] = [] from rfl, List.append_nil]; exact unhide HW2⟩
    case round =>
      clear HW1 HW2
      obtain ⟨k, hk, rfl, HI⟩ := hrel
      obtain ⟨r3, hI⟩ := unhide HI
      have HI := hide hI
      clear hI
      by_cases hlt : k < n
      · have hki : (k : Int) < (n : Int) := by omega
        have hkl : k < l.length := by rw [← unhide HLN]; exact hlt
        obtain ⟨g, o, hao, c1, c2⟩ := ((unhide HQ).below (by rw [← unhide HN]; exact (unhide HI).below)).dt hkl
        subst hao
        have hix := ixD g o n c k hlt
        have hf := unhide HF _ (List.getElem_mem hkl)
        have HTK := hide (unhide HT k hkl)
        obtain ⟨M, hM⟩ : ∃ M, M = wr.heap.size := ⟨_, rfl⟩
        have HM := hide hM
        have HLK := hide (unhide HL k (by omega))
        have HMA : Hid (M ≠ a ∧ M ≠ r3) := by have h1 := (unhide HI).wr.1; have h2 := (unhide HI).wr.2.1; rw [hM]; exact ⟨by omega, by omega⟩
        clear hM
        generalize l[k] = q at *
        obtain ⟨qa, qc⟩ := q
        have c1 : wr.cell? ⟨g, o + k * 2, none⟩ = some (.int .u32 (qa : Int)) := c1
        have c2 : wr.cell? ⟨g, o + k * 2 + 1, none⟩ = some (.int .u64 (qc : Int)) := c2
        have HF1 : Hid (qa < 4294967296) := hf.1
        have HF2 : Hid (qc < 18446744073709551616) := hf.2
        have hcq : IntKind.u64.wrap (qa : Int) = (qa : Int) := by have := hf.1; simp only at this; rw [IntKind.wrap_u64]; omega
        generalize o + k * 2 = oo at *
        clear hf
        have HLK2 : Hid ((bs ++ W.uintB 9 n ++ dotsB (l.take k) ++ W.uintB 9 qa).length ≤ 1001300) := by
          have h1 := (uintB_len 9 qa).2
          have h2 := unhide HLK
          have h3 : (bs ++ W.uintB 9 n ++ dotsB (l.take k)).length + (W.uintB 9 qa).length ≤ 1001300 := by omega
          rw [List.length_append]
          exact h3
        go_wp2_with (first
          | ((with_reducible refine wpList_alloc_dot (by rfl) (by rfl) (some 6) (by rfl) M (unhide HM) ?_); intro W1 HX1 HB1 HS1; simp only [Act.put, List.setIfInBounds_toArray, List.set_cons_zero, List.set_cons_succ])
          | ((with_reducible refine wpList_store_dot (by rfl) (.tmp 6) (.tmp 22) (by rfl) M (qa : Int) (qc : Int) (by with_unfolding_all rfl) (by with_unfolding_all rfl) (unhide HX1) ?_); intro W2 HX2 HE2; simp only [Act.put]; obtain ⟨y0, y1⟩ := box2 (unhide HX2); have HW2 := hide ((unhide HI).belw (w' := W2) (by rw [← unhide HM, unhide HE2]; exact belowRow (unhide HB1) (Nat.le_refl _) _)))
          | (go_at_call_of 128 (Value.int IntKind.u64 (qa : Int)); have _t := HLK; refine (unhide HX _ r3 _ qa (unhide HW2) (Nat.lt_trans (unhide HF1) (by decide)) (Nat.le_trans (unhide HLK) (by decide))).mono ?_; rintro e w3 ⟨rfl, r4, hw3, hu3⟩; have HW3 := hide hw3; clear hw3 _t HLK; obtain ⟨_, hyy⟩ := box2 ((hu3.block M (Array.getElem?_eq_some_iff.1 (unhide HX2)).1 (unhide HMA).1 (unhide HMA).2).trans (unhide HX2)); clear hu3)
          | (go_at_call 128; refine (unhide HX _ r4 _ qc (unhide HW3) (unhide HF2) (unhide HLK2)).mono ?_; rintro e w4 ⟨rfl, r5, hw4, _⟩; have HW4 := hide hw4; clear hw4)
          | fail)
        go_roundw
        case rel => exact ⟨k + 1, by omega, by go_num, r5, by rw [unhide HTK, ← List.append_assoc, ← List.append_assoc]; exact unhide HW4⟩
        case measure => simp [intOf]; omega
      · obtain rfl : k = n := by omega
        have hki : ¬ (k : Int) < (k : Int) := by omega
        go_wp2
        go_ret
        exact ⟨rfl, r3, by rw [unhide HE]; exact unhide HI⟩
/-- what Encode answers -/
noncomputable def encV (l : List (Nat × Nat)) : ByteArray × Int := if V.okB l then (⟨(vecB l).toArray⟩, 0) else (⟨#[]⟩, 100)
theorem Wn.new (u : World) (t : TypeId) : Wn u (u.alloc (.cells #[.slice none 0 0] t)) u.heap.size u.heap.size u.heap.size [] :=
  ⟨W.Wr.new u t, (Below.refl _ _).alloc (Nat.le_refl _) _, by simp, Nat.le_refl _, Nat.le_refl _⟩
end Go.Proofs.Ytkcbljmjhlnjpaa
namespace Go.Proofs.Ytkcbljmjhlnjpaa
open Go.RowKit

theorem uintS_le (s : ByteArray) (p : Nat) (e : Int) (most : Nat) : (W.uintS s p e most).1 ≤ most := by
  unfold W.uintS
  split
  · exact Nat.zero_le _
  · split
    · exact Nat.zero_le _
    · split
      · exact Nat.zero_le _
      · simp only; omega
/-- dots out of bytes -/
def tkD (s : ByteArray) : Nat → Nat → Int → List (Nat × Nat) × Nat × Int
  | 0, p, e => ([], p, e)
  | n + 1, p, e => if e ≠ 0 then ([], p, e) else
    let x := W.uintS s p e 4294967295
    let y := W.uintS s x.2.1 x.2.2 1099511627776
    let z := tkD s n y.2.1 y.2.2
    ((x.1, y.1) :: z.1, z.2.1, z.2.2)
def tkV (s : ByteArray) (p : Nat) (e : Int) : List (Nat × Nat) × Nat × Int := tkD s (W.uintS s p e 64).1 (W.uintS s p e 64).2.1 (W.uintS s p e 64).2.2
theorem tkD_zero (s : ByteArray) (p : Nat) (e : Int) : tkD s 0 p e = ([], p, e) := rfl
theorem tkD_err (s : ByteArray) (n p : Nat) {e : Int} (h : e ≠ 0) : tkD s n p e = ([], p, e) := by
  cases n with
  | zero => rfl
  | succ n => rw [tkD, if_pos h]
theorem tkD_succ (s : ByteArray) (n p : Nat) : tkD s (n + 1) p 0 = (((W.uintS s p 0 4294967295).1, (W.uintS s (W.uintS s p 0 4294967295).2.1 (W.uintS s p 0 4294967295).2.2 1099511627776).1) :: (tkD s n (W.uintS s (W.uintS s p 0 4294967295).2.1 (W.uintS s p 0 4294967295).2.2 1099511627776).2.1 (W.uintS s (W.uintS s p 0 4294967295).2.1 (W.uintS s p 0 4294967295).2.2 1099511627776).2.2).1, (tkD s n (W.uintS s (W.uintS s p 0 4294967295).2.1 (W.uintS s p 0 4294967295).2.2 1099511627776).2.1 (W.uintS s (W.uintS s p 0 4294967295).2.1 (W.uintS s p 0 4294967295).2.2 1099511627776).2.2).2) := by
  rw [tkD, if_neg (by simp)]
theorem tkD_fits (s : ByteArray) (n p : Nat) (e : Int) : Fits (tkD s n p e).1 ∧ (tkD s n p e).1.length ≤ n := by
  induction n generalizing p e with
  | zero => exact ⟨fun d hd => (by cases hd), Nat.le_refl _⟩
  | succ n ih =>
    by_cases h : e = 0
    · subst h
      rw [tkD_succ]
      refine ⟨fun d hd => ?_, ?_⟩
      · rcases List.mem_cons.1 hd with rfl | hd
        · have h1 := uintS_le s p 0 4294967295
          have h2 := uintS_le s (W.uintS s p 0 4294967295).2.1 (W.uintS s p 0 4294967295).2.2 1099511627776
          exact ⟨by simp only; omega, by simp only; omega⟩
        · exact (ih _ _).1 d hd
      · have := (ih (W.uintS s (W.uintS s p 0 4294967295).2.1 (W.uintS s p 0 4294967295).2.2 1099511627776).2.1 (W.uintS s (W.uintS s p 0 4294967295).2.1 (W.uintS s p 0 4294967295).2.2 1099511627776).2.2).2
        simp only [List.length_cons]; omega
    · rw [tkD_err _ _ _ h]; exact ⟨fun d hd => (by cases hd), Nat.zero_le _⟩
theorem tkV_fits (s : ByteArray) (p : Nat) (e : Int) : Fits (tkV s p e).1 ∧ (tkV s p e).1.length ≤ 64 :=
  ⟨(tkD_fits s _ _ _).1, Nat.le_trans (tkD_fits s _ _ _).2 (uintS_le s p e 64)⟩
theorem OwnD.upd {w w' : World} {B a : Nat} {l : List (Nat × Nat)} {ao : Option Addr} {c : Nat} (h : OwnD w B l ao c) (hu : W.Upd w w' a a) (ha : a < B) : OwnD w' B l ao c :=
  own_keep h fun g hg => hu.block g (h.lt g hg).2 (by have := (h.lt g hg).1; omega) (by have := (h.lt g hg).1; omega)
theorem Rd.below {w w' : World} {a : Nat} {s : ByteArray} {p : Nat} {e : Int} (h : W.Rd w a s p e) (hb : Below w.heap.size w w') : W.Rd w' a s p e := h.same hb.size (hb.block a h.lt)
theorem Upd.belw {u w w' : World} {a : Nat} (h : W.Upd u w a a) (hb : Below w.heap.size w w') : W.Upd u w' a a := h.trans (⟨hb.os, hb.tape, hb.output, hb.size, fun k hk _ _ => hb.block k hk⟩ : W.Upd w w' a a) (.inl rfl)
/-- while dots are taken -/
structure Tk (u w : World) (N a : Nat) (s : ByteArray) (p : Nat) (e : Int) (l : List (Nat × Nat)) (ao : Option Addr) (c : Nat) : Prop where
  own : OwnD w N l ao c
  rd : W.Rd w a s p e
  upd : W.Upd u w a a
theorem Tk.step {u w w' : World} {N a : Nat} {s : ByteArray} {p p' : Nat} {e e' : Int} {l : List (Nat × Nat)} {ao : Option Addr} {c : Nat} (h : Tk u w N a s p e l ao c) (hr : W.Rt w w' a s p' e') (ha : a < N) : Tk u w' N a s p' e' l ao c :=
  ⟨h.own.upd hr.2 ha, hr.1, h.upd.trans hr.2 (.inl rfl)⟩
theorem Tk.belw {u w w' : World} {N a : Nat} {s : ByteArray} {p : Nat} {e : Int} {l : List (Nat × Nat)} {ao : Option Addr} {c : Nat} (h : Tk u w N a s p e l ao c) (hb : Below w.heap.size w w') : Tk u w' N a s p e l ao c :=
  ⟨h.own.below hb, Rd.below h.rd hb, Upd.belw h.upd hb⟩
theorem Tk.grow {u w w' : World} {N a : Nat} {s : ByteArray} {p : Nat} {e : Int} {l l' : List (Nat × Nat)} {ao ao' : Option Addr} {c c' : Nat} (h : Tk u w N a s p e l ao c) (hg : w.grownBy w' (Value.slice ao l.length c).ownBlock) (ho : OwnD w' N l' ao' c') (ha : a < N) (hN : N = u.heap.size) : Tk u w' N a s p e l' ao' c' := by
  have hz := h.upd.size
  have hb : Below N w w' := grown_below h.own hg (by rw [hN]; exact hz)
  exact ⟨ho, h.rd.same hb.size (hb.block a ha), ⟨hb.os.trans h.upd.os, hb.tape.trans h.upd.tape, hb.output.trans h.upd.output, Nat.le_trans h.upd.size hb.size, fun k hk h1 h2 => (hb.block k (by omega)).trans (h.upd.block k hk h1 h2)⟩⟩
set_option maxRecDepth 100000 in
set_option maxHeartbeats 4000000 in
theorem vTakeDots (a : Nat) (s : ByteArray) (p : Nat) (e : Int) (u : World) (h : W.Rd u a s p e) :
    Calls Try.prog 148 #[.pointer (some ⟨a, 0, none⟩)] u fun x u' => ∃ ao c, x = .returned (.slice ao (tkV s p e).1.length c) ∧ Tk u u' u.heap.size a s (tkV s p e).2.1 (tkV s p e).2.2 (tkV s p e).1 ao c := by
  have HU : Hid (∀ (w : World) (p : Nat) (e : Int) (most : Nat), W.Rd w a s p e → Calls Try.prog 117 #[.pointer (some ⟨a, 0, none⟩), .int .u64 (most : Int)] w fun y w' => y = .returned (.int .u64 ((W.uintS s p e most).1 : Int)) ∧ W.Rt w w' a s (W.uintS s p e most).2.1 (W.uintS s p e most).2.2) := fun w p e most h => W.rUint a s p e most w h
  have HE : Hid (∀ (w : World) (p : Nat) (e : Int), W.Rd w a s p e → Calls Try.prog 118 #[.pointer (some ⟨a, 0, none⟩)] w fun x w' => x = .returned (.int .i64 e) ∧ w' = w) := fun w p e h => W.rErr a s p e w h
  have HR := hide h
  have haN := h.lt
  have HV : Hid (tkV s p e = tkD s (W.uintS s p e 64).1 (W.uintS s p e 64).2.1 (W.uintS s p e 64).2.2) := rfl
  have HL := hide (uintS_le s p e 64)
  have HU0 : Hid (Calls Try.prog 117 #[.pointer (some ⟨a, 0, none⟩), .int .u64 64] u fun y w' => y = .returned (.int .u64 ((W.uintS s p e 64).1 : Int)) ∧ W.Rt u w' a s (W.uintS s p e 64).2.1 (W.uintS s p e 64).2.2) := unhide HU u p e 64 h
  obtain ⟨N, hN⟩ : ∃ N, N = u.heap.size := ⟨_, rfl⟩
  have HN := hide hN
  rw [← hN] at haN ⊢
  have HAN := hide haN
  clear hN h haN
  have HUA : Hid (∀ (w : World) (p : Nat) (e : Int), W.Rd w a s p e → Calls Try.prog 117 #[.pointer (some ⟨a, 0, none⟩), .int .u64 4294967295] w fun y w' => y = .returned (.int .u64 ((W.uintS s p e 4294967295).1 : Int)) ∧ W.Rt w w' a s (W.uintS s p e 4294967295).2.1 (W.uintS s p e 4294967295).2.2) := fun w p e h => unhide HU w p e 4294967295 h
  have HUB : Hid (∀ (w : World) (p : Nat) (e : Int), W.Rd w a s p e → Calls Try.prog 117 #[.pointer (some ⟨a, 0, none⟩), .int .u64 1099511627776] w fun y w' => y = .returned (.int .u64 ((W.uintS s p e 1099511627776).1 : Int)) ∧ W.Rt w w' a s (W.uintS s p e 1099511627776).2.1 (W.uintS s p e 1099511627776).2.2) := fun w p e h => unhide HU w p e 1099511627776 h
  generalize tkV s p e = T at *
  generalize W.uintS s p e 64 = x0 at *
  obtain ⟨n0, p0, e0⟩ := x0
  have HL : Hid (n0 ≤ 64) := HL
  have HV : Hid (T = tkD s n0 p0 e0) := HV
  have HU0 : Hid (Calls Try.prog 117 #[.pointer (some ⟨a, 0, none⟩), .int .u64 64] u fun y w' => y = .returned (.int .u64 (n0 : Int)) ∧ W.Rt u w' a s p0 e0) := HU0
  go_enter Try.func148, Try.ntmps148
  go_wp2_with (first
    | (go_at_call 117; refine (unhide HU0).mono ?_; rintro y w1 ⟨rfl, hr1⟩; have HT1 : Hid (Tk u w1 N a s p0 e0 [] none 0) := ⟨World.ownsRow_nil _ _ _ _, hr1.1, hr1.2⟩; clear hr1)
    | fail)
  go_loopw [3, 4] (fun s3 s4 wr => ∃ (acc : List (Nat × Nat)) (xo : Option Addr) (m n c p1 : Nat) (e1 : Int), s3 = .slice xo m c ∧ s4 = .int .u64 (n : Int) ∧ Hid (m = acc.length) ∧ Hid (acc.length + n ≤ 64) ∧ Hid (Tk u wr N a s p1 e1 acc xo c) ∧ Hid (T = (acc ++ (tkD s n p1 e1).1, (tkD s n p1 e1).2))) (fun _ s4 _ => (intOf s4).toNat)
  case atStart => exact ⟨[], none, 0, n0, 0, p0, e0, rfl, rfl, rfl, hide (by simp only [List.length_nil, Nat.zero_add]; exact unhide HL), unhide HT1, by rw [unhide HV]; exact rfl⟩
  case round =>
    clear HT1 HV HU0 HL
    obtain ⟨acc, xo, m, n, c, p1, e1, rfl, rfl, HMA, HLN, HI, HT⟩ := hrel
    have hni : (n : Int) ≤ 64 := by have := unhide HLN; omega
    cases n with
    | zero =>
      have HTE : Hid (T = (acc, p1, e1)) := by rw [unhide HT, tkD_zero, List.append_nil]; exact rfl
      go_wp2
      go_ret
      exact ⟨xo, c, by rw [unhide HTE]; show Ending.returned (.slice xo m c) = .returned (.slice xo acc.length c); rw [← unhide HMA], by rw [unhide HTE]; exact unhide HI⟩
    | succ n =>
      have HEE := hide (unhide HE wr p1 e1 (unhide HI).rd)
      obtain ⟨n1, hn1⟩ : ∃ n1, n1 = n + 1 := ⟨_, rfl⟩
      rw [← hn1] at hni HLN HT ⊢
      have hnp : (0 : Int) < (n1 : Int) := by omega
      by_cases he : e1 = 0
      · subst he
        have HTS := hide (tkD_succ s n p1)
        rw [← hn1] at HTS
        have HX1 := hide (unhide HUA wr p1 0 (unhide HI).rd)
        have hx1 := uintS_le s p1 0 4294967295
        generalize W.uintS s p1 0 4294967295 = x at *
        obtain ⟨xa, px, ex⟩ := x
        have hx1 : xa ≤ 4294967295 := hx1
        have HX1 : Hid (Calls Try.prog 117 #[.pointer (some ⟨a, 0, none⟩), .int .u64 4294967295] wr fun y w' => y = .returned (.int .u64 (xa : Int)) ∧ W.Rt wr w' a s px ex) := HX1
        have HX2 : Hid (∀ w : World, W.Rd w a s px ex → Calls Try.prog 117 #[.pointer (some ⟨a, 0, none⟩), .int .u64 1099511627776] w fun y w' => y = .returned (.int .u64 ((W.uintS s px ex 1099511627776).1 : Int)) ∧ W.Rt w w' a s (W.uintS s px ex 1099511627776).2.1 (W.uintS s px ex 1099511627776).2.2) := fun w h => unhide HUB w px ex h
        generalize hy : W.uintS s px ex 1099511627776 = y at *
        obtain ⟨yc, py, ey⟩ := y
        have HX2 : Hid (∀ w : World, W.Rd w a s px ex → Calls Try.prog 117 #[.pointer (some ⟨a, 0, none⟩), .int .u64 1099511627776] w fun y w' => y = .returned (.int .u64 (yc : Int)) ∧ W.Rt w w' a s py ey) := HX2
        have HTS : Hid (tkD s n1 p1 0 = ((xa, yc) :: (tkD s n py ey).1, (tkD s n py ey).2)) := by rw [unhide HTS]; simp only; exact trivial
        have HTE : Hid (T = (acc ++ [(xa, yc)] ++ (tkD s n py ey).1, (tkD s n py ey).2)) := by
          rw [unhide HT, unhide HTS, List.append_assoc]; exact rfl
        have hwx : IntKind.u32.wrap (xa : Int) = (xa : Int) := by rw [IntKind.wrap_u32]; omega
        have hsub : (n1 : Int) - 1 = (n : Int) := by omega
        have hsub2 : IntKind.u64.wrap ((n1 : Int) - 1) = (n : Int) := by rw [IntKind.wrap_u64]; omega
        have HN1 := hide hn1
        clear hy hn1 HT HTS hx1 hsub
        go_wp2_with (first
          | (go_at_call 118; refine (unhide HEE).mono ?_; rintro y w1 ⟨rfl, hw1⟩; obtain rfl := hw1.symm; clear hw1)
          | (go_at_call_of 117 (Value.int IntKind.u64 4294967295); refine (unhide HX1).mono ?_; rintro y w1 ⟨rfl, hr1⟩; have HT1 := hide ((unhide HI).step hr1 (unhide HAN)); clear hr1)
          | (go_at_call 117; refine (unhide HX2 _ (unhide HT1).rd).mono ?_; rintro y w2 ⟨rfl, hr2⟩; have HT2 := hide ((unhide HT1).step hr2 (unhide HAN)); clear hr2; have HT3 := hide ((unhide HT2).belw (w' := w2.alloc (.cells #[.int .u32 (xa : Int), .int .u64 (yc : Int)] 53)) ((Below.refl _ _).alloc (Nat.le_refl _) _)))
          | (at_builtin; refine wpList_putD (by rfl) (.tmp 22) (.tmp 27) (by rfl) (some 28) (by rfl) N acc [(xa, yc)] m 1 (unhide HMA) rfl xo (some ⟨w2.heap.size, 0, none⟩) c 1 (by rfl) (by rfl) (unhide HT3).own (Dv.one w2 (xa, yc) 53) (by have := unhide HLN; simp only [List.length_cons, List.length_nil]; omega) (by rw [unhide HN]; exact (unhide HT3).upd.size) ?_; intro ao4 n4 c4 X4 HN4 HO4 HG4 HB4 _; simp only [Act.put, List.setIfInBounds_toArray, List.set_cons_zero, List.set_cons_succ]; have HT4 := hide ((unhide HT3).grow (unhide HG4) (unhide HO4) (unhide HAN) (unhide HN)); clear HO4 HG4 HB4)
          | fail)
        go_roundw
        case rel => exact ⟨acc ++ [(xa, yc)], ao4, n4, n, c4, py, ey, rfl, rfl, unhide HN4, hide (by have h1 := unhide HLN; have h2 := unhide HN1; rw [List.length_append]; have h3 : [(xa, yc)].length = 1 := rfl; omega), unhide HT4, unhide HTE⟩
        case measure => have := unhide HN1; simp [intOf]; omega
      · have HTE : Hid (T = (acc, p1, e1)) := by rw [unhide HT, tkD_err _ _ _ he, List.append_nil]; exact rfl
        go_wp2_with (first
          | (go_at_call 118; refine (unhide HEE).mono ?_; rintro y w1 ⟨rfl, hw1⟩; obtain rfl := hw1.symm; clear hw1)
          | fail)
        go_ret
        exact ⟨xo, c, by rw [unhide HTE]; show Ending.returned (.slice xo m c) = .returned (.slice xo acc.length c); rw [← unhide HMA], by rw [unhide HTE]; exact unhide HI⟩
end Go.Proofs.Ytkcbljmjhlnjpaa
namespace Go.Proofs.Ytkcbljmjhlnjpaa
open Go.RowKit
/-- what Take leaves as error -/
noncomputable def takeE (s : ByteArray) (p : Nat) (e : Int) : Int := if V.okB (tkV s p e).1 then (tkV s p e).2.2 else W.failE (tkV s p e).2.2 100
/-- what Take answers -/
noncomputable def takeL (s : ByteArray) (p : Nat) (e : Int) : List (Nat × Nat) := if takeE s p e = 0 then (tkV s p e).1 else []
theorem Tk.none {u w : World} {N a : Nat} {s : ByteArray} {p : Nat} {e : Int} {l : List (Nat × Nat)} {ao : Option Addr} {c : Nat} (h : Tk u w N a s p e l ao c) : Tk u w N a s p e [] none 0 := ⟨World.ownsRow_nil _ _ _ _, h.rd, h.upd⟩
set_option maxRecDepth 100000 in
set_option maxHeartbeats 4000000 in
theorem vTake (a : Nat) (s : ByteArray) (p : Nat) (e : Int) (u : World) (h : W.Rd u a s p e) :
    Calls Try.prog 116 #[.pointer (some ⟨a, 0, none⟩)] u fun x u' => ∃ ao c, x = .returned (.slice ao (takeL s p e).length c) ∧ Tk u u' u.heap.size a s (tkV s p e).2.1 (takeE s p e) (takeL s p e) ao c := by
  have H1 := hide (vTakeDots a s p e u h)
  have HF := hide (tkV_fits s p e)
  have HE : Hid (∀ (w : World) (p : Nat) (e : Int), W.Rd w a s p e → Calls Try.prog 118 #[.pointer (some ⟨a, 0, none⟩)] w fun x w' => x = .returned (.int .i64 e) ∧ w' = w) := fun w p e h => W.rErr a s p e w h
  have HFL : Hid (∀ (w : World) (p : Nat) (e : Int), W.Rd w a s p e → Calls Try.prog 149 #[.pointer (some ⟨a, 0, none⟩), .int .i64 100] w fun y w' => y = .returned (.tuple #[]) ∧ W.Rt w w' a s p (W.failE e 100)) := fun w p e h => W.rFail a s p e 100 w h
  have HAN := hide h.lt
  obtain ⟨N, hN⟩ : ∃ N, N = u.heap.size := ⟨_, rfl⟩
  have HN := hide hN
  rw [← hN] at H1 HAN ⊢
  clear hN h
  have HTE : Hid (takeE s p e = if V.okB (tkV s p e).1 then (tkV s p e).2.2 else W.failE (tkV s p e).2.2 100) := rfl
  have HTL : Hid (takeL s p e = if takeE s p e = 0 then (tkV s p e).1 else []) := rfl
  generalize takeE s p e = E at *
  generalize takeL s p e = L at *
  generalize tkV s p e = t at *
  obtain ⟨l, q, f⟩ := t
  have H1 : Hid (Calls Try.prog 148 #[.pointer (some ⟨a, 0, none⟩)] u fun x u' => ∃ ao c, x = .returned (.slice ao l.length c) ∧ Tk u u' N a s q f l ao c) := H1
  have HF : Hid (Fits l ∧ l.length ≤ 64) := HF
  have HTE : Hid (E = if V.okB l then f else W.failE f 100) := HTE
  have HTL : Hid (L = if E = 0 then l else []) := HTL
  have HV : Hid (∀ (w : World) (ao : Option Addr) (c : Nat), Tk u w N a s q f l ao c → Calls Try.prog 122 #[.slice ao l.length c] w fun e u' => e = .returned (.bool (V.okB l)) ∧ Below w.heap.size w u') := fun w ao c ht => vValid l ao c w ⟨ht.own.dv.lies, (unhide HF).1, len_small (Nat.le_trans (unhide HF).2 (by decide))⟩
  show Calls Try.prog 116 #[.pointer (some ⟨a, 0, none⟩)] u fun x u' => ∃ ao c, x = .returned (.slice ao L.length c) ∧ Tk u u' N a s q E L ao c
  cases hok : V.okB l with
  | true =>
    have HEE : Hid (E = f) := by rw [unhide HTE, hok]; exact rfl
    rw [hok] at HV
    by_cases hf : f = 0
    · have HLL : Hid (L = l) := by rw [unhide HTL, unhide HEE, if_pos hf]; exact rfl
      subst hf
      go_enter Try.func116, Try.ntmps116
      go_wp2_with (first
        | (go_at_call 148; refine (unhide H1).mono ?_; rintro e w1 ⟨ao, c, rfl, ht⟩; have HT1 := hide ht; clear ht)
        | (go_at_call 122; refine (unhide HV _ _ _ (unhide HT1)).mono ?_; rintro e w2 ⟨rfl, hb2⟩; have HT2 := hide ((unhide HT1).belw hb2); clear hb2)
        | (go_at_call 118; refine (unhide HE _ _ _ (unhide HT2).rd).mono ?_; rintro y w3 ⟨rfl, hw3⟩; obtain rfl := hw3.symm; clear hw3)
        | fail)
      go_ret
      exact ⟨ao, c, by rw [unhide HLL]; rfl, by rw [unhide HLL, unhide HEE]; exact unhide HT2⟩
    · have HLL : Hid (L = []) := by rw [unhide HTL, unhide HEE, if_neg hf]; exact rfl
      go_enter Try.func116, Try.ntmps116
      go_wp2_with (first
        | (go_at_call 148; refine (unhide H1).mono ?_; rintro e w1 ⟨ao, c, rfl, ht⟩; have HT1 := hide ht; clear ht)
        | (go_at_call 122; refine (unhide HV _ _ _ (unhide HT1)).mono ?_; rintro e w2 ⟨rfl, hb2⟩; have HT2 := hide ((unhide HT1).belw hb2); clear hb2)
        | (go_at_call 118; refine (unhide HE _ _ _ (unhide HT2).rd).mono ?_; rintro y w3 ⟨rfl, hw3⟩; obtain rfl := hw3.symm; clear hw3)
        | fail)
      go_ret
      exact ⟨none, 0, by rw [unhide HLL]; rfl, by rw [unhide HLL, unhide HEE]; exact (unhide HT2).none⟩
  | false =>
    have HEE : Hid (E = W.failE f 100) := by rw [unhide HTE, hok]; exact rfl
    rw [hok] at HV
    have HNZ : Hid (E ≠ 0) := by
      rw [unhide HEE]; unfold W.failE; split
      · exact (by decide : (100 : Int) ≠ 0)
      · assumption
    have HLL : Hid (L = []) := by rw [unhide HTL, if_neg (unhide HNZ)]; exact rfl
    have HFL : Hid (∀ (w : World), W.Rd w a s q f → Calls Try.prog 149 #[.pointer (some ⟨a, 0, none⟩), .int .i64 100] w fun y w' => y = .returned (.tuple #[]) ∧ W.Rt w w' a s q E) := fun w h => by rw [unhide HEE]; exact unhide HFL w q f h
    have hnz : ¬ E = 0 := unhide HNZ
    go_enter Try.func116, Try.ntmps116
    go_wp2_with (first
      | (go_at_call 148; refine (unhide H1).mono ?_; rintro e w1 ⟨ao, c, rfl, ht⟩; have HT1 := hide ht; clear ht)
      | (go_at_call 122; refine (unhide HV _ _ _ (unhide HT1)).mono ?_; rintro e w2 ⟨rfl, hb2⟩; have HT2 := hide ((unhide HT1).belw hb2); clear hb2)
      | (go_at_call 149; refine (unhide HFL _ (unhide HT2).rd).mono ?_; rintro y w3 ⟨rfl, hr3⟩; have HT3 := hide ((unhide HT2).step hr3 (unhide HAN)); clear hr3)
      | (go_at_call 118; refine (unhide HE _ _ _ (unhide HT3).rd).mono ?_; rintro y w4 ⟨rfl, hw4⟩; obtain rfl := hw4.symm; clear hw4)
      | fail)
    go_ret
    exact ⟨none, 0, by rw [unhide HLL]; rfl, by rw [unhide HLL]; exact (unhide HT3).none⟩
/-- what Decode answers -/
noncomputable def decV (s : ByteArray) : List (Nat × Nat) × Int := if W.endE s.size (tkV s 0 0).2.1 (takeE s 0 0) = 0 then (takeL s 0 0, 0) else ([], 100)
end Go.Proofs.Ytkcbljmjhlnjpaa
namespace Go.Proofs.Ytkcbljmjhlnjpaa
open Go.RowKit
theorem flatD_set : ∀ (l : List (Nat × Nat)) (k : Nat) (q p : Nat), ((flatD l).set (k * 2) (.int .u32 (q : Int))).set (k * 2 + 1) (.int .u64 (p : Int)) = flatD (l.set k (q, p))
  | [], k, q, p => by simp [flatD]
  | c :: cs, 0, q, p => by simp [flatD, dcs]
  | c :: cs, k + 1, q, p => by
    have ih := flatD_set cs k q p
    have e : flatD (c :: cs) = .int .u32 (c.1 : Int) :: .int .u64 (c.2 : Int) :: flatD cs := rfl
    rw [e, show (k + 1) * 2 = k * 2 + 1 + 1 by omega, List.set_cons_succ, List.set_cons_succ, List.set_cons_succ, List.set_cons_succ, ih]
    rfl
section
variable {w : World} {B : Nat} {l : List (Nat × Nat)} {g c : Nat}
theorem OwnD.set (h : OwnD w B l (some ⟨g, 0, none⟩) c) (k q p : Nat) : OwnD (w.setCells g (k * 2) [.int .u32 (q : Int), .int .u64 (p : Int)]) B (l.set k (q, p)) (some ⟨g, 0, none⟩) c := by
  show ((w.setCell ⟨g, k * 2, none⟩ (.int .u32 (q : Int))).setCell ⟨g, k * 2 + 1, none⟩ (.int .u64 (p : Int))).ownsRow B 53 2 _ (l.set k (q, p)).length _
  rw [List.length_set]
  have s2 := (World.ownsRow.stored h (k * 2) (.int .u32 (q : Int))).1
  have s3 := (s2.stored (k * 2 + 1) (.int .u64 (p : Int))).1
  rw [flatD_set] at s3
  exact s3
theorem OwnD.there (h : OwnD w B l (some ⟨g, 0, none⟩) c) {k : Nat} (hk : k < l.length) : w.there g (k * 2) 2 := fun j hj => by
  have hl : (flatD l).length = l.length * 2 := flatD_len l
  refine ⟨?_, World.ownsRow.frozenAt h _⟩
  rw [World.ownsRow.cellAt h (k * 2 + j) (by omega), List.getElem?_eq_getElem (by omega)]
  rfl
theorem OwnD.blk (h : OwnD w B l (some ⟨g, 0, none⟩) c) : B ≤ g ∧ g < w.heap.size := World.ownsRow.lt h g rfl
end
theorem OwnD.pos {w : World} {B : Nat} {l : List (Nat × Nat)} {ao : Option Addr} {c : Nat} (h : OwnD w B l ao c) (h0 : 0 < l.length) : ∃ g, ao = some ⟨g, 0, none⟩ := by
  rcases h.2 with ⟨_, hn⟩ | ⟨g, cap, cur, hv, h1, h2, h3, h4, h5, h6⟩
  · omega
  · simp only [Value.slice.injEq] at hv; exact ⟨g, hv.1⟩
theorem belowCells {B : Nat} {a w : World} (h : Below B a w) {g k : Nat} (hg : B ≤ g) (x y : Value) : Below B a (w.setCells g k [x, y]) := belowCell (p := ⟨g, k + 1, none⟩) (belowCell (p := ⟨g, k, none⟩) h hg x) hg y
theorem cells_other (w : World) {g k M : Nat} (x y : Value) (h : M ≠ g) : (w.setCells g k [x, y]).heap[M]? = w.heap[M]? := by
  show ((w.setCell ⟨g, k, none⟩ x).setCell ⟨g, k + 1, none⟩ y).heap[M]? = w.heap[M]?
  rw [Below.heap_setCell _ ⟨g, k + 1, none⟩ y M h, Below.heap_setCell _ ⟨g, k, none⟩ x M h]
theorem cells_size (w : World) {g k : Nat} (x y : Value) : (w.setCells g k [x, y]).heap.size = w.heap.size := by
  show ((w.setCell ⟨g, k, none⟩ x).setCell ⟨g, k + 1, none⟩ y).heap.size = w.heap.size
  simp
theorem wp_alloc_dot {o : Oper} {a : Act} {w : World} {K : Act → World → Prop} {Q : Exit → Act → World → Prop} (ho : o.op = .alloc 53) (d : Option Tmp) (hd : o.dst = d) (h : K (a.put d (.pointer (some ⟨w.heap.size, 0, none⟩))) (w.alloc (.cells #[.int .u32 0, .int .u64 0] 53))) : o.wp Try.prog a w K Q := by
  subst hd
  obtain ⟨z, h1, h2⟩ := zero_run zeroDot w
  unfold Oper.wp execOp
  simp only [ho, Sem.run_bind, Instr.alloc, h1, newVar, newRow, run_newObj_alloc, Sem.run_pure, Result.andThen_ok, h2]
  exact h
theorem wp_store_dot {o : Oper} {a : Act} {w : World} {K : Act → World → Prop} {Q : Exit → Act → World → Prop} (x y : Operand) (ho : o.op = .store 53 x y) (hd : o.dst = none) (g : Nat) (q p : Int) (hx : a.eval x = .pointer (some ⟨g, 0, none⟩)) (hy : a.eval y = .agg #[.int .u32 q, .int .u64 p])
    {q0 p0 : Value} (hg : w.heap[g]? = some (.cells #[q0, p0] 53 (0, 0)))
    (h : ∀ w', Hid (w'.heap[g]? = some (.cells #[.int .u32 q, .int .u64 p] 53 (0, 0))) → Hid (w' = w.setRow g #[.int .u32 q, .int .u64 p]) → K a w') : o.wp Try.prog a w K Q :=
  wp_store_row 53 x y ho g #[.int .u32 q, .int .u64 p] hx hy 53 _ hg dotInfo rfl (dot_one _ _) (by rw [hd]; exact h _ (heapRow_same hg _) rfl)
theorem put_set (v : List (Nat × Nat)) (q : Nat) (y : Nat × Nat) (h : q < v.length) : (V.put v (q + 1) y).set (q + 1) v[q] = V.put v q v[q] := by
  unfold V.put
  have hl : (v.take (q + 1)).length = q + 1 := by rw [List.length_take]; omega
  rw [List.set_append_right _ _ (by omega), hl, Nat.sub_self, List.set_cons_zero, List.take_succ_eq_append_getElem h, List.append_assoc, List.drop_eq_getElem_cons h]
  rfl
theorem put_last (v : List (Nat × Nat)) (q : Nat) (y d : Nat × Nat) (h : q ≤ v.length) : (V.put v q y).set q d = V.put v q d := by
  unfold V.put
  have hl : (v.take q).length = q := by rw [List.length_take]; omega
  rw [List.set_append_right _ _ (by omega), hl, Nat.sub_self, List.set_cons_zero]
theorem put_get (v : List (Nat × Nat)) (q j : Nat) (y : Nat × Nat) (h : j < q) (hq : q ≤ v.length) : (V.put v q y)[j]'(by rw [V.put_len hq]; omega) = v[j] := by
  unfold V.put
  rw [List.getElem_append_left (by rw [List.length_take]; omega), List.getElem_take]
theorem put_end (v : List (Nat × Nat)) (d : Nat × Nat) : v ++ [d] = V.put v v.length d := by unfold V.put; simp
theorem fits_put {v : List (Nat × Nat)} {p : Nat} {d : Nat × Nat} (h : Fits v) (hd : d.1 < 4294967296 ∧ d.2 < 18446744073709551616) : Fits (V.put v p d) := fun x hx => by
  rcases V.mem_put.1 hx with rfl | hx
  · exact hd
  · exact h x hx
theorem fits_ins {v : List (Nat × Nat)} {d : Nat × Nat} (h : Fits v) (hd : d.1 < 4294967296 ∧ d.2 < 18446744073709551616) : Fits (V.ins v d) := by
  unfold V.ins; split
  · exact h
  · exact fits_put h hd
end Go.Proofs.Ytkcbljmjhlnjpaa
namespace Go.Proofs.Ytkcbljmjhlnjpaa
open Go.RowKit
/-- dots laid out anew -/
theorem Dv.lit (W : World) (l : List (Nat × Nat)) (cs : Array Value) (t : TypeId) (n : Nat) (hc : cs.toList = flatD l) (hn : n = l.length) : Dv (W.alloc (.cells cs t)) l (some ⟨W.heap.size, 0, none⟩) n :=
  ⟨fun _ => ⟨_, 0, rfl, fun j v hv => by
    have h1 : (W.alloc (.cells cs t)).heap[W.heap.size]? = some (.cells cs t (0, 0)) := heap_alloc_new _ _
    simp only [World.cell?, h1, Nat.zero_add]
    rw [← hc] at hv
    simpa using hv⟩, by omega, fun e => by cases e⟩
theorem Da.lit (W : World) (l : List (Nat × Nat)) (cs : Array Value) (t : TypeId) (n : Nat) (hc : cs.toList = flatD l) (hn : n = l.length) (hf : Fits l) (hl : l.length ≤ 128) : Da (W.alloc (.cells cs t)) l (some ⟨W.heap.size, 0, none⟩) n := ⟨Dv.lit W l cs t n hc hn, hf, len_da hl⟩
def wA : List (Nat × Nat) := [(1, 2), (3, 1)]
def wB : List (Nat × Nat) := [(1, 1), (2, 300)]
def wM : List (Nat × Nat) := [(1, 2), (2, 300), (3, 1)]
def wS : ByteArray := ⟨#[3, 1, 2, 2, 172, 2, 3, 1]⟩
theorem ok_of {l : List (Nat × Nat)} (h1 : l.length ≤ 64) (h2 : Decidable.decide (l.Pairwise fun x y => x.1 < y.1) = true) (h3 : l.all (fun d => Decidable.decide (1 ≤ d.2 ∧ d.2 ≤ 1099511627776)) = true) : V.Ok l :=
  ⟨⟨show l.Pairwise (fun x y => x.1 < y.1) from of_decide_eq_true h2, fun d hd => by have := List.all_eq_true.1 h3 d hd; simpa using this⟩, h1⟩
theorem okA : V.Ok wA := ok_of (by decide) (by decide) (by decide)
theorem okBb : V.Ok wB := ok_of (by decide) (by decide) (by decide)
theorem okM : V.Ok wM := ok_of (by decide) (by decide) (by decide)
theorem fits_ok {l : List (Nat × Nat)} (h : l.all (fun d => Decidable.decide (d.1 < 4294967296 ∧ d.2 < 18446744073709551616)) = true) : Fits l := fun d hd => by have := List.all_eq_true.1 h d hd; simpa using this
theorem mrgAB : V.mrg wA wB = wM := by simp [V.mrg, V.later, wA, wB, wM]
theorem mrgBA : V.mrg wB wA = wM := by simp [V.mrg, V.later, wA, wB, wM]
theorem mrgAM : V.mrg wA wM = wM := by simp [V.mrg, V.later, wA, wM]
theorem mrgMA : V.mrg wM wA = wM := by simp [V.mrg, V.later, wA, wM]
theorem maxAB : maxV wA wB = (wM, 0) := by
  unfold maxV
  rw [V.okB_true.2 okA, V.okB_true.2 okBb, mrgAB]
  rfl
theorem cmpAM : cmpV wA wM = -1 := by
  unfold cmpV belB
  rw [V.okB_true.2 okA, V.okB_true.2 okM, mrgAM, mrgMA, decide_eq_true rfl, decide_eq_false (show wM ≠ wA by decide)]
  rfl
theorem cmpAB : cmpV wA wB = 2 := by
  unfold cmpV belB
  rw [V.okB_true.2 okA, V.okB_true.2 okBb, mrgAB, mrgBA, decide_eq_false (show wM ≠ wB by decide), decide_eq_false (show wM ≠ wA by decide)]
  rfl
theorem encM : encV wM = (wS, 0) := by
  unfold encV
  rw [V.okB_true.2 okM]
  rfl
theorem tkS : tkV wS 0 0 = (wM, 8, 0) := by kernel_rfl
theorem decS : decV wS = (wM, 0) := by
  have he : takeE wS 0 0 = 0 := by unfold takeE; rw [tkS]; show (if V.okB wM = true then (0 : Int) else _) = 0; rw [V.okB_true.2 okM]; rfl
  have hl : takeL wS 0 0 = wM := by unfold takeL; rw [he, tkS]; rfl
  unfold decV
  rw [he, hl, tkS]
  rfl
end Go.Proofs.Ytkcbljmjhlnjpaa
namespace Go.Proofs.Ytkcbljmjhlnjpaa
open Go.RowKit
section
variable {W0 : World} {a b : List (Nat × Nat)} {xa xb : Option Addr} {ca cb na nb : Nat}
theorem kValid (r : Bool) (hr : V.okB a = r) (ea : na = a.length) (ha : Da W0 a xa ca) (W : World) (hW : Below W0.heap.size W0 W) : Calls Try.prog 122 #[.slice xa na ca] W fun e W' => e = .returned (.bool r) ∧ Below W0.heap.size W0 W' := by
  subst hr ea
  exact (vValid a xa ca W (ha.below hW).at).mono fun e W' h => ⟨h.1, hW.trans (h.2.mono hW.size)⟩
theorem kCount (x r : Nat) (hr : V.cntV a x = r) (ea : na = a.length) (ha : Da W0 a xa ca) (W : World) (hW : Below W0.heap.size W0 W) : Calls Try.prog 133 #[.slice xa na ca, .int .u32 (x : Int)] W fun e W' => e = .returned (.int .u64 (r : Int)) ∧ Below W0.heap.size W0 W' := by
  subst hr ea
  exact (vCount a xa ca x W (ha.below hW).at).mono fun e W' h => ⟨h.1, hW.trans (h.2.mono hW.size)⟩
theorem kCovers (x y : Nat) (r : Bool) (hr : covB a (x, y) = r) (ea : na = a.length) (ha : Da W0 a xa ca) (W : World) (hW : Below W0.heap.size W0 W) : Calls Try.prog 124 #[.slice xa na ca, .agg #[.int .u32 (x : Int), .int .u64 (y : Int)]] W fun e W' => e = .returned (.bool r) ∧ Below W0.heap.size W0 W' := by
  subst hr ea
  exact (vCovers a xa ca (x, y) W (ha.below hW).at).mono fun e W' h => ⟨h.1, hW.trans (h.2.mono hW.size)⟩
theorem kMax (m : List (Nat × Nat)) (r : Int) (hr : maxV a b = (m, r)) (ea : na = a.length) (eb : nb = b.length) (ha : Da W0 a xa ca) (hb : Da W0 b xb cb) (W : World) (hW : Below W0.heap.size W0 W) : Calls Try.prog 88 #[.slice xa na ca, .slice xb nb cb] W fun e W' => ∃ xm nm cm, e = .returned (.tuple #[.slice xm nm cm, .int .i64 r]) ∧ nm = m.length ∧ Da W' m xm cm ∧ Below W0.heap.size W0 W' := by
  subst ea eb
  refine (vMax a b xa xb ca cb W (ha.below hW) (hb.below hW)).mono ?_
  rintro e W' ⟨xm, cm, he, ho, hb'⟩
  rw [hr] at he ho
  have hm : m = (maxV a b).1 := by rw [hr]
  refine ⟨xm, _, cm, he, rfl, ⟨ho.dv, ?_, ?_⟩, hW.trans (hb'.mono hW.size)⟩
  · rw [hm]; unfold maxV
    split
    · split
      · exact fits_mrg ha.fits hb.fits
      · exact fun d hd => (by cases hd)
    · exact fun d hd => (by cases hd)
  · rw [hm]; unfold maxV
    split
    · split
      · exact Nat.le_trans ‹_› (by decide)
      · exact Nat.zero_le _
    · exact Nat.zero_le _
end
theorem max_ok {a b : List (Nat × Nat)} (ha : V.Ok a) (hb : V.Ok b) (h : (V.mrg a b).length ≤ 64) : maxV a b = (V.mrg a b, 0) := by
  unfold maxV; rw [V.okB_true.2 ha, V.okB_true.2 hb]; simp [h]
theorem max_big {a b : List (Nat × Nat)} (ha : V.Ok a) (hb : V.Ok b) (h : ¬ (V.mrg a b).length ≤ 64) : maxV a b = ([], 82) := by
  unfold maxV; rw [V.okB_true.2 ha, V.okB_true.2 hb]; simp [h]
theorem mrg_ok {a b : List (Nat × Nat)} (ha : V.Ok a) (hb : V.Ok b) (h : (V.mrg a b).length ≤ 64) : V.Ok (V.mrg a b) := ⟨V.mrg_vec ha.toVec hb.toVec, h⟩
theorem cnt_ok {a : List (Nat × Nat)} (ha : V.Ok a) (x : Nat) : V.cntV a x = V.cnt a x := by unfold V.cntV; rw [V.okB_true.2 ha]; rfl
theorem da_none (w : World) : Da w [] none 0 := ⟨⟨Lies.nil _ _, Nat.le_refl _, fun _ => rfl⟩, fun d hd => (by cases hd), Nat.zero_le _⟩
theorem ok_nil : V.Ok [] := ⟨V.vec_nil, Nat.zero_le _⟩
end Go.Proofs.Ytkcbljmjhlnjpaa
