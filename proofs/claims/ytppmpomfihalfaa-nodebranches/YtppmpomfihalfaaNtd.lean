/- Put together out of Nsx, Nsy, Nsz, Nta, Ntb. -/
import Derived.Test.YtppmpomfihalfaaNtc
import Derived.Deep.DeepCutAuto
import Derived.Test.YtppmpomfihalfaaNsh
namespace Go.Proofs.Ytppmpomfihalfaa
section
open Go.RowKit
theorem srcK {u : World} {ao : Option Addr} {l : List ByteArray} (h : Lies u ao (flatK l)) (c : Nat) : ∀ j, j < l.length → ∃ q g o, l[j]? = some q ∧ (∀ W : World, (Instr.indexAt 23 (.slice ao l.length c) (.int .i64 (j : Int))).run Try.prog W = .ok (.pointer (some ⟨g, o, none⟩)) W) ∧ ∀ W : World, Below u.heap.size u W → W.cell? ⟨g, o, none⟩ = some (.string q) := fun j hj => by
  obtain ⟨g, o, rfl, hc⟩ := h.ky hj
  exact ⟨l[j], g, o + j, List.getElem?_eq_getElem hj, fun W => ixStrs g o l.length c j hj W, fun W hW => cell_keep hW rfl hc⟩
theorem srcG {u : World} {ao : Option Addr} {l : List Nat} (h : Lies u ao (flatG l)) (c : Nat) : ∀ j, j < l.length → ∃ q g o, l[j]? = some q ∧ (∀ W : World, (Instr.indexAt 24 (.slice ao l.length c) (.int .i64 (j : Int))).run Try.prog W = .ok (.pointer (some ⟨g, o, none⟩)) W) ∧ ∀ W : World, Below u.heap.size u W → W.cell? ⟨g, o, none⟩ = some (.int .u32 (q : Int)) := fun j hj => by
  obtain ⟨g, o, rfl, hc⟩ := h.kd hj
  exact ⟨l[j], g, o + j, List.getElem?_eq_getElem hj, fun W => ixKids g o l.length c j hj W, fun W hW => cell_keep hW rfl hc⟩
theorem Gn.fin {u w : World} {N M : Nat} {bx : Obj} {ks : List ByteArray} {gs : List Nat} {ka : Option Addr} {kn kc : Nat} {ga : Option Addr} {gn gc : Nat} (h : Gn u w N M bx ks gs ka kn kc ga gn gc) (cs : Array Value) : Ow (w.setRow (N + 1) cs) N [] ks gs ⟨none, 0, ka, kc, ga, gc⟩ ∧ Below N u (w.setRow (N + 1) cs) := by
  have h0 := h.ow
  have h1 := h.k.lt
  have h2 := h.g.lt
  rw [h.ek] at h1
  rw [h.eg] at h2
  exact ⟨⟨World.ownsRow_nil _ _ _ _, own_keep h0.k (fun g hg => heapRow_other _ _ _ _ (by have := (h1 g hg).1; omega)), own_keep h0.g (fun g hg => heapRow_other _ _ _ _ (by have := (h2 g hg).1; omega))⟩, belowRow h.bel (Nat.le_succ N) _⟩
theorem shrink_keys (n : Nd) (i : Nat) (hi : i < n.keys.length) : lout n.keys i n.keys.length = (n.shrink i).keys := by
  obtain ⟨j, hj⟩ : ∃ j, n.keys.length = i + 1 + j := ⟨n.keys.length - (i + 1), by omega⟩
  rw [hj, lout_all, List.take_of_length_le (l := n.keys.drop (i + 1)) (by rw [List.length_drop]; omega)]
  rfl
theorem shrink_kids (n : Nd) (i : Nat) (hi : i < n.keys.length) (hk : n.kids.length = n.keys.length + 1) : n.kids.take 1 ++ lout n.kids.tail i n.keys.length = (n.shrink i).kids := by
  obtain ⟨j, hj⟩ : ∃ j, n.keys.length = i + 1 + j := ⟨n.keys.length - (i + 1), by omega⟩
  rw [hj, lout_all]
  cases hg : n.kids with
  | nil => rw [hg] at hk; simp at hk
  | cons g l =>
    rw [hg] at hk
    have hl : l.length = n.keys.length := by simpa using hk
    simp only [Nd.shrink, hg, List.tail_cons, List.take_succ_cons, List.take_zero, List.drop_succ_cons, List.cons_append, List.nil_append]
    rw [List.take_of_length_le (l := l.drop (i + 1)) (by rw [List.length_drop]; omega)]
set_option maxRecDepth 100000 in
set_option maxHeartbeats 8000000 in
theorem rShrinkGo (n : Nd) (a : Nv) (i : Nat) (u : World) (h : NdAt u n a) (hc : n.refused false = 0) (hi : i < n.keys.length) : Calls Try.prog 50 #[a.v n, .int .i64 (i : Int)] u fun e u' => ∃ y : Nv, e = .returned (.tuple #[y.v (n.shrink i), .int .i64 0]) ∧ Ow u' u.heap.size (n.shrink i).cells (n.shrink i).keys (n.shrink i).kids y ∧ Below u.heap.size u u' := by
  have hok := (Nd.refused_zero.1 hc).1
  have hle := hok.lens
  have hkk : n.kids.length = n.keys.length + 1 := by
    have hk := hok.kind
    have hlf := (Nd.refused_zero.1 hc).2
    unfold Nd.Kind at hk
    rw [if_neg (by rw [hlf]; decide)] at hk
    exact hk.2.2
  have hmix : Try.prog.follows .mixedOrders = true := by kernel_rfl
  have H1 := hide (fun (v : World) (hb : Below u.heap.size u v) => rBranch n a v (h.below hb) (fun _ => by omega))
  have HSK := hide (srcK h.keys a.kc)
  have HSG := hide (srcG h.kids a.gc)
  have HFK := hide (shrink_keys n i hi)
  have HFG := hide (shrink_kids n i hi hkk)
  have HFV : Hid (∀ y : Nv, y.v (n.shrink i) = .agg #[.bool false, .slice y.ca 0 y.cc, .slice y.ka (n.shrink i).keys.length y.kc, .slice y.ga (n.shrink i).kids.length y.gc]) := fun y => rfl
  have HFC : Hid ((n.shrink i).cells = []) := rfl
  have HTL : Hid (∀ k q, n.kids[k + 1]? = some q → n.kids.tail[k]? = some q) := fun k q hq => by rw [List.getElem?_tail]; exact hq
  have HT0 : Hid (∀ q, n.kids[0]? = some q → n.kids.take 1 = [q]) := fun q hq => by
    cases hg : n.kids with
    | nil => rw [hg] at hq; cases hq
    | cons g l => rw [hg] at hq; simp at hq; rw [hq]; rfl
  have hii : (i : Int) < (n.keys.length : Int) := by omega
  have hkb : n.keys.length ≤ 1992 := hle.2.1
  have hkbi : (n.keys.length : Int) ≤ 1992 := by omega
  obtain ⟨N, hN⟩ : ∃ N, N = u.heap.size := ⟨_, rfl⟩
  have HN := hide hN
  rw [← hN] at H1 HSK HSG ⊢
  clear hN h hok hle
  rw [Nv.v_eq] at H1
  rw [Nv.v_eq n a]
  rw [hc] at H1
  clear hc
  obtain ⟨ca, cc, xk, xkc, xg, xgc⟩ := a
  generalize n.shrink i = m at *
  generalize n.cells.length = cn at *
  generalize n.keys.length = kn0 at *
  generalize n.kids.length = gn0 at *
  generalize n.leaf = lf at *
  have hi0 : ¬ (i : Int) < 0 := by omega
  have hi1 : ¬ (kn0 : Int) ≤ (i : Int) := by omega
  have hi2 : ¬ kn0 ≤ i := by omega
  obtain ⟨q0, sg0, so0, hq0, hix0, hsc0⟩ := unhide HSG 0 (by omega)
  have HKK := hide hkk
  clear hkk
  have HQ0 := hide (unhide HT0 q0 hq0)
  have HSC0 := hide hsc0
  clear hq0 hsc0 HT0
  have hix0' : ∀ W : World, (Instr.indexAt 24 (.slice xg gn0 xgc) (.int .i64 0)).run Try.prog W = .ok (.pointer (some ⟨sg0, so0, none⟩)) W := hix0
  clear hix0
  go_enter Try.func50, Try.ntmps50
  go_wp2_with (first
    | ((with_reducible refine wpList_box_node (by rfl) (.tmp 0) (by rfl) (some 2) (by rfl) N (unhide HN) lf ca cn cc xk kn0 xkc xg gn0 xgc (by with_unfolding_all rfl) ?_); intro W0 HX0 HB0 HS0; simp only [Act.put, List.setIfInBounds_toArray, List.set_cons_zero, List.set_cons_succ])
    | ((with_reducible refine wpList_alloc_node (by rfl) (by rfl) (some 4) (by rfl) (N + 1) (unhide HS0).symm ?_); intro W1 HX1 HB1 HS1; simp only [Act.put, List.setIfInBounds_toArray, List.set_cons_zero, List.set_cons_succ]; have HX2 := hide (((unhide HB1).block N (Nat.lt_succ_self N)).trans (unhide HX0)); obtain ⟨y0, y1, y2, y3⟩ := box4 (unhide HX2))
    | fail)
  have HG1 : Hid (Gs u W1 N (.cells #[.bool lf, .slice ca cn cc, .slice xk kn0 xkc, .slice xg gn0 xgc] 26 (0, 0)) (.cells #[.bool false, .slice none 0 0, .slice none 0 0, .slice none 0 0] 26 (0, 0))) := ⟨⟨(unhide HB0).trans ((unhide HB1).mono (Nat.le_succ N)), unhide HX2⟩, unhide HX1⟩
  clear HX0 HB0 HS0 HB1 HS1 HX1 HX2
  refine (unhide H1 _ (unhide HG1).1.1).mono ?_
  rintro e W3 ⟨rfl, hb3⟩
  have HG3 := hide ((unhide HG1).below hb3)
  clear hb3 y0 y1 y2 y3 HG1 H1
  obtain ⟨y0, y1, y2, y3⟩ := box4 (unhide HG3).1.2
  have c0 := unhide HSC0 _ (unhide HG3).1.1
  obtain ⟨M, hM⟩ : ∃ M, M = W3.heap.size + 1 := ⟨_, rfl⟩
  have HMM : Hid (M = (W3.alloc (.cells #[.int .u32 (q0 : Int)] 50)).heap.size) := by rw [hM]; simp [Hid]
  have HGA := hide ((unhide HG3).below (w' := W3.alloc (.cells #[.int .u32 (q0 : Int)] 50)) ((Below.refl _ _).alloc (Nat.le_refl _) _))
  have HOG : Hid ((W3.alloc (.cells #[.int .u32 (q0 : Int)] 50)).ownsRow (N + 2) 50 1 (.slice (some ⟨W3.heap.size, 0, none⟩) 1 1) 1 (flatG [q0])) := ⟨rfl, .inr ⟨W3.heap.size, 1, #[.int .u32 (q0 : Int)], rfl, (unhide HG3).sz, heap_alloc_new _ _, Nat.le_refl _, by decide, rfl, rfl⟩⟩
  have HMN : Hid (N + 2 ≤ M) := by have := (unhide HG3).sz; rw [hM]; show N + 2 ≤ _; omega
  clear hM
  go_wp2_with (first
    | ((with_reducible refine wpList_alloc_node (by rfl) (by rfl) (some 7) (by rfl) M (unhide HMM) ?_); intro W4 HX4 HB4 HS4; simp only [Act.put, List.setIfInBounds_toArray, List.set_cons_zero, List.set_cons_succ])
    | ((with_reducible refine wpList_store_node (by rfl) (.tmp 7) (.tmp 30) (by rfl) M false none 0 0 none 0 0 (some ⟨W3.heap.size, 0, none⟩) 1 1 (by with_unfolding_all rfl) (by with_unfolding_all rfl) (unhide HX4) ?_); intro W5 HX5 HE5; simp only [Act.put])
    | fail)
  obtain ⟨BX, hBX⟩ : ∃ B : Obj, B = (.cells #[.bool lf, .slice ca cn cc, .slice xk kn0 xkc, .slice xg gn0 xgc] 26 (0, 0)) := ⟨_, rfl⟩
  have HBX := hide hBX
  have HG5 : Hid (Gn u W5 N M BX [] [q0] none 0 0 (some ⟨W3.heap.size, 0, none⟩) 1 1) := by
    have hb5 : Below M (W3.alloc (.cells #[.int .u32 (q0 : Int)] 50)) W5 := by rw [unhide HE5]; exact belowRow (unhide HB4) (Nat.le_refl _) _
    rw [unhide HMM] at hb5
    have h1 := (unhide HGA).below hb5
    exact ⟨h1.1.1, by rw [hBX]; exact h1.1.2, h1.2, unhide HX5, rfl, rfl, World.ownsRow_nil _ _ _ _, own_keep (unhide HOG) fun g hg => hb5.block g ((unhide HOG).lt g hg).2, unhide HMN⟩
  clear hBX HX4 HB4 HS4 HX5 HE5 HGA HOG HG3 HMM y0 y1 y2 y3 c0 HSC0 hix0'
  generalize (some ⟨W3.heap.size, 0, none⟩ : Option Addr) = ga0 at *
  go_wp2_with fail
  go_loopw [8] (fun s8 wr => ∃ (k : Nat) (ks : List ByteArray) (gs : List Nat) (ka : Option Addr) (kn kc : Nat) (ga : Option Addr) (gn gc : Nat), s8 = .int .i64 (k : Int) ∧ k ≤ kn0 ∧ Hid (ks = lout n.keys i k ∧ gs = n.kids.take 1 ++ lout n.kids.tail i k) ∧ Hid (kn ≤ k ∧ gn ≤ k + 1) ∧ Hid (Gn u wr N M BX ks gs ka kn kc ga gn gc)) (fun s8 _ => kn0 - (intOf s8).toNat)
  case atStart => exact ⟨0, [], [q0], none, 0, 0, ga0, 1, 1, rfl, Nat.zero_le _, ⟨rfl, by rw [unhide HQ0]; rfl⟩, ⟨Nat.le_refl _, Nat.le_refl _⟩, unhide HG5⟩
  case round =>
    clear HG5 HQ0
    obtain ⟨k, ks, gs, ka, kn, kc, ga, gn, gc, rfl, hk, HL, HBD, HG⟩ := hrel
    have hb4 := (unhide HG).box
    rw [unhide HBX] at hb4
    obtain ⟨y0, y1, y2, y3⟩ := box4 hb4
    clear hb4
    by_cases hlt : k < kn0
    · have hki : (k : Int) < (kn0 : Int) := by omega
      by_cases hki2 : k = i
      · have HN2 : Hid (ks = lout n.keys i (k + 1) ∧ gs = n.kids.take 1 ++ lout n.kids.tail i (k + 1)) := by
          obtain ⟨e1, e2⟩ := unhide HL
          refine ⟨?_, ?_⟩
          · rw [lout, if_pos hki2, List.append_nil]; exact e1
          · rw [lout, if_pos hki2, List.append_nil]; exact e2
        subst hki2
        go_wp2_with fail
        go_roundw
        case rel => exact ⟨k + 1, ks, gs, ka, kn, kc, ga, gn, gc, by go_num, hlt, unhide HN2, by have := unhide HBD; exact ⟨by omega, by omega⟩, unhide HG⟩
        case measure => simp [intOf]; omega
      · have hkb1 : ((k : Int) == (i : Int)) = false := by rw [beq_eq_false_iff_ne]; omega
        have hkb2 : ¬ (k : Int) = (i : Int) := by omega
        have hkb3 : decide ((k : Int) = (i : Int)) = false := decide_eq_false hkb2
        have hc1 : ((k + 1 : Nat) : Int) = (k : Int) + 1 := by omega
        have hkl9 : (k : Int) ≤ 1992 := by omega
        obtain ⟨q, sg, so, hq, hix, hsc⟩ := unhide HSK k hlt
        obtain ⟨q2, sg2, so2, hq2, hix2, hsc2⟩ := unhide HSG (k + 1) (by have := unhide HKK; omega)
        have HSC := hide hsc
        have HSC2 := hide hsc2
        have HN2 : Hid (ks ++ [q] = lout n.keys i (k + 1) ∧ gs ++ [q2] = n.kids.take 1 ++ lout n.kids.tail i (k + 1)) := by
          obtain ⟨e1, e2⟩ := unhide HL
          refine ⟨?_, ?_⟩
          · rw [lout, if_neg hki2, hq, e1]; rfl
          · rw [lout, if_neg hki2, unhide HTL k q2 hq2, e2, List.append_assoc]; rfl
        have HBK : Hid (kn ≤ 2000000) := by have := (unhide HBD).1; show kn ≤ _; omega
        have HBG : Hid (gn ≤ 2000000) := by have := (unhide HBD).2; show gn ≤ _; omega
        have hix3 : ∀ W : World, (Instr.indexAt 24 (.slice xg gn0 xgc) (.int .i64 ((k : Int) + 1))).run Try.prog W = .ok (.pointer (some ⟨sg2, so2, none⟩)) W := fun W => by have := hix2 W; rwa [hc1] at this
        clear hsc hsc2 hq hq2 hix2
        go_wp2_with fail
        refine wp_region_last (fun W => (Below N u W ∧ W.heap[N]? = some BX) ∧ W.heap[M]? = some (.cells #[.bool false, .slice none 0 0, .slice ka kn kc, .slice ga gn gc] 26 (0, 0))) 10 hmix ⟨⟨belowDrewN (unhide HG).bel 1, (unhide HG).box⟩, (unhide HG).made⟩ fun hS => ?_
        replace HG := hide ((unhide HG).drewN 1)
        generalize hXX : World.drewN _ 1 = X0 at HG
        have hXY : World.drew _ = X0 := hXX
        rw [hXY] at hS ⊢
        clear hXX hXY
        refine wpAnyL_take 0 41 (.pointer (some ⟨M, 2, none⟩)) [] rfl rfl (by kernel_rfl) (by kernel_rfl) (by kernel_rfl) (by kernel_rfl) (by kernel_rfl) (fun _ _ _ h => h) (by rfl) (fun u _ => by go_simp) hS ?_
        simp only [Act.put, List.setIfInBounds_toArray, List.set_cons_zero, List.set_cons_succ]
        refine wpAnyL_take 1 42 (.slice ka kn kc) [] rfl rfl (by kernel_rfl) (by kernel_rfl) (by kernel_rfl) (by kernel_rfl) (by kernel_rfl) (fun _ _ _ h => h) (by rfl) (fun W hW => by obtain ⟨b0, b1, b2, b3⟩ := box4 hW.2; go_simp) hS ?_
        simp only [Act.put, List.setIfInBounds_toArray, List.set_cons_zero, List.set_cons_succ]
        refine wpAnyL_take 2 43 (.pointer (some ⟨N, 2, none⟩)) [] rfl rfl (by kernel_rfl) (by kernel_rfl) (by kernel_rfl) (by kernel_rfl) (by kernel_rfl) (fun _ _ _ h => h) (by rfl) (fun u _ => by go_simp) hS ?_
        simp only [Act.put, List.setIfInBounds_toArray, List.set_cons_zero, List.set_cons_succ]
        refine wpAnyL_take 3 44 (.slice xk kn0 xkc) [] rfl rfl (by kernel_rfl) (by kernel_rfl) (by kernel_rfl) (by kernel_rfl) (by kernel_rfl) (fun _ _ _ h => h) (by rfl) (fun W hW => by rw [unhide HBX] at hW; obtain ⟨b0, b1, b2, b3⟩ := box4 hW.1.2; go_simp) hS ?_
        simp only [Act.put, List.setIfInBounds_toArray, List.set_cons_zero, List.set_cons_succ]
        refine wpAnyL_take 4 45 (.int .i64 (k : Int)) [] rfl rfl (by kernel_rfl) (by kernel_rfl) (by kernel_rfl) (by kernel_rfl) (by kernel_rfl) (fun _ _ _ h => h) (by rfl) (fun u _ => by go_simp) hS ?_
        simp only [Act.put, List.setIfInBounds_toArray, List.set_cons_zero, List.set_cons_succ]
        refine wpAnyL_take 5 46 (.pointer (some ⟨sg, so, none⟩)) [] rfl rfl (by kernel_rfl) (by kernel_rfl) (by kernel_rfl) (by kernel_rfl) (by kernel_rfl) (fun _ _ _ h => h) (by rfl) (fun u _ => by go_simp) hS ?_
        simp only [Act.put, List.setIfInBounds_toArray, List.set_cons_zero, List.set_cons_succ]
        refine wpAnyL_take 6 47 (.string q) [] rfl rfl (by kernel_rfl) (by kernel_rfl) (by kernel_rfl) (by kernel_rfl) (by kernel_rfl) (fun _ _ _ h => h) (by rfl) (fun W hW => by have e1 := unhide HSC W hW.1.1; go_simp) hS ?_
        simp only [Act.put, List.setIfInBounds_toArray, List.set_cons_zero, List.set_cons_succ]
        refine wpAnyL_one (i := 7) (by kernel_rfl) rfl (by rfl) fun K hK => ?_
        refine wp_buildTo (by rfl) _ _ (by simp only [List.map_toArray, List.map_cons, List.map_nil]; exact bsK X0 _) (some 48) (by rfl) ?_
        have HX1 := hide ((unhide HG).below ((Below.refl _ _).alloc (Nat.le_refl _) (.cells #[.string q] 9)))
        refine hK _ _ (fun _ => ⟨⟨(unhide HX1).bel, (unhide HX1).box⟩, (unhide HX1).made⟩) ?_
        clear hK K HX1
        simp only [Act.put, List.setIfInBounds_toArray, List.set_cons_zero, List.set_cons_succ]
        refine wpAnyL_one (i := 8) (by kernel_rfl) rfl (by rfl) fun K hK => ?_
        refine (unhide HG).opK (.tmp 42) (.tmp 48) (by rfl) (some 49) (by rfl) q (by rfl) (by rfl) (unhide HBK) ?_
        intro ao1 k21 cp1 w2 HK21 HMD HG2
        refine hK _ _ (fun _ => unhide HMD) ?_
        clear hK K
        simp only [Act.put, List.setIfInBounds_toArray, List.set_cons_zero, List.set_cons_succ]
        refine wpAnyL_one (i := 9) (by kernel_rfl) rfl (by rfl) fun K hK => ?_
        refine wp_val (.pointer (some ⟨M, 2, none⟩)) (by go_simp) (some 50) (by rfl) ?_
        refine hK _ _ (fun _ => unhide HMD) ?_
        clear hK K
        simp only [Act.put, List.setIfInBounds_toArray, List.set_cons_zero, List.set_cons_succ]
        refine wpAnyL_one (i := 10) (by kernel_rfl) rfl (by rfl) fun K hK => ?_
        refine wp_store_val 23 (.tmp 50) (.tmp 49) (by rfl) (by rfl) M 2 ao1 k21 cp1 (by rfl) (by rfl) (made_there (unhide HMD).2 (by simp)) (by kernel_rfl) ?_
        refine hK _ _ (fun h => absurd rfl h) ?_
        clear hK K
        refine wpAnyL_done (by kernel_rfl) ?_ _
        generalize World.setCell w2 _ _ = X5 at HG2 ⊢
        replace HG := HG2
        clear HMD HG2 hS
        clear y0 y1 y2 y3
        have hb4 := (unhide HG).box
        rw [unhide HBX] at hb4
        obtain ⟨y0, y1, y2, y3⟩ := box4 hb4
        clear hb4
        go_wp2_with fail
        refine wp_region_last (fun W => (Below N u W ∧ W.heap[N]? = some BX) ∧ W.heap[M]? = some (.cells #[.bool false, .slice none 0 0, .slice ao1 k21 cp1, .slice ga gn gc] 26 (0, 0))) 11 hmix ⟨⟨belowDrewN (unhide HG).bel 1, (unhide HG).box⟩, (unhide HG).made⟩ fun hS => ?_
        replace HG := hide ((unhide HG).drewN 1)
        generalize hXX : World.drewN _ 1 = X0 at HG
        have hXY : World.drew _ = X0 := hXX
        rw [hXY] at hS ⊢
        clear hXX hXY
        refine wpAnyL_take 0 51 (.pointer (some ⟨M, 3, none⟩)) [] rfl rfl (by kernel_rfl) (by kernel_rfl) (by kernel_rfl) (by kernel_rfl) (by kernel_rfl) (fun _ _ _ h => h) (by rfl) (fun u _ => by go_simp) hS ?_
        simp only [Act.put, List.setIfInBounds_toArray, List.set_cons_zero, List.set_cons_succ]
        refine wpAnyL_take 1 52 (.slice ga gn gc) [] rfl rfl (by kernel_rfl) (by kernel_rfl) (by kernel_rfl) (by kernel_rfl) (by kernel_rfl) (fun _ _ _ h => h) (by rfl) (fun W hW => by obtain ⟨b0, b1, b2, b3⟩ := box4 hW.2; go_simp) hS ?_
        simp only [Act.put, List.setIfInBounds_toArray, List.set_cons_zero, List.set_cons_succ]
        refine wpAnyL_take 2 53 (.pointer (some ⟨N, 3, none⟩)) [] rfl rfl (by kernel_rfl) (by kernel_rfl) (by kernel_rfl) (by kernel_rfl) (by kernel_rfl) (fun _ _ _ h => h) (by rfl) (fun u _ => by go_simp) hS ?_
        simp only [Act.put, List.setIfInBounds_toArray, List.set_cons_zero, List.set_cons_succ]
        refine wpAnyL_take 3 54 (.slice xg gn0 xgc) [] rfl rfl (by kernel_rfl) (by kernel_rfl) (by kernel_rfl) (by kernel_rfl) (by kernel_rfl) (fun _ _ _ h => h) (by rfl) (fun W hW => by rw [unhide HBX] at hW; obtain ⟨b0, b1, b2, b3⟩ := box4 hW.1.2; go_simp) hS ?_
        simp only [Act.put, List.setIfInBounds_toArray, List.set_cons_zero, List.set_cons_succ]
        refine wpAnyL_take 4 55 (.int .i64 (k : Int)) [] rfl rfl (by kernel_rfl) (by kernel_rfl) (by kernel_rfl) (by kernel_rfl) (by kernel_rfl) (fun _ _ _ h => h) (by rfl) (fun u _ => by go_simp) hS ?_
        simp only [Act.put, List.setIfInBounds_toArray, List.set_cons_zero, List.set_cons_succ]
        refine wpAnyL_take 5 56 (.int .i64 (((k + 1 : Nat) : Int) : Int)) [] rfl rfl (by kernel_rfl) (by kernel_rfl) (by kernel_rfl) (by kernel_rfl) (by kernel_rfl) (fun _ _ _ h => h) (by rfl) (fun W hW => by rw [hc1]; go_simp; rw [IntKind.wrap_i64]; omega) hS ?_
        simp only [Act.put, List.setIfInBounds_toArray, List.set_cons_zero, List.set_cons_succ]
        refine wpAnyL_take 6 57 (.pointer (some ⟨sg2, so2, none⟩)) [] rfl rfl (by kernel_rfl) (by kernel_rfl) (by kernel_rfl) (by kernel_rfl) (by kernel_rfl) (fun _ _ _ h => h) (by rfl) (fun u _ => by go_simp) hS ?_
        simp only [Act.put, List.setIfInBounds_toArray, List.set_cons_zero, List.set_cons_succ]
        refine wpAnyL_take 7 58 (.int .u32 (q2 : Int)) [] rfl rfl (by kernel_rfl) (by kernel_rfl) (by kernel_rfl) (by kernel_rfl) (by kernel_rfl) (fun _ _ _ h => h) (by rfl) (fun W hW => by have e1 := unhide HSC2 W hW.1.1; go_simp) hS ?_
        simp only [Act.put, List.setIfInBounds_toArray, List.set_cons_zero, List.set_cons_succ]
        refine wpAnyL_one (i := 8) (by kernel_rfl) rfl (by rfl) fun K hK => ?_
        refine wp_buildTo (by rfl) _ _ (by simp only [List.map_toArray, List.map_cons, List.map_nil]; exact bsG X0 _) (some 59) (by rfl) ?_
        have HX1 := hide ((unhide HG).below ((Below.refl _ _).alloc (Nat.le_refl _) (.cells #[.int .u32 (q2 : Int)] 50)))
        refine hK _ _ (fun _ => ⟨⟨(unhide HX1).bel, (unhide HX1).box⟩, (unhide HX1).made⟩) ?_
        clear hK K HX1
        simp only [Act.put, List.setIfInBounds_toArray, List.set_cons_zero, List.set_cons_succ]
        refine wpAnyL_one (i := 9) (by kernel_rfl) rfl (by rfl) fun K hK => ?_
        refine (unhide HG).opG (.tmp 52) (.tmp 59) (by rfl) (some 60) (by rfl) q2 (by rfl) (by rfl) (unhide HBG) ?_
        intro ao2 k22 cp2 w2 HK22 HMD HG2
        refine hK _ _ (fun _ => unhide HMD) ?_
        clear hK K
        simp only [Act.put, List.setIfInBounds_toArray, List.set_cons_zero, List.set_cons_succ]
        refine wpAnyL_one (i := 10) (by kernel_rfl) rfl (by rfl) fun K hK => ?_
        refine wp_val (.pointer (some ⟨M, 3, none⟩)) (by go_simp) (some 61) (by rfl) ?_
        refine hK _ _ (fun _ => unhide HMD) ?_
        clear hK K
        simp only [Act.put, List.setIfInBounds_toArray, List.set_cons_zero, List.set_cons_succ]
        refine wpAnyL_one (i := 11) (by kernel_rfl) rfl (by rfl) fun K hK => ?_
        refine wp_store_val 24 (.tmp 61) (.tmp 60) (by rfl) (by rfl) M 3 ao2 k22 cp2 (by rfl) (by rfl) (made_there (unhide HMD).2 (by simp)) (by kernel_rfl) ?_
        refine hK _ _ (fun h => absurd rfl h) ?_
        clear hK K
        refine wpAnyL_done (by kernel_rfl) ?_ _
        generalize World.setCell w2 _ _ = X5 at HG2 ⊢
        replace HG := HG2
        clear HMD HG2 hS
        go_wp2
        go_roundw
        case rel => exact ⟨k + 1, ks ++ [q], gs ++ [q2], ao1, k21, cp1, ao2, k22, cp2, by go_num, hlt, unhide HN2, by have h1 := unhide HBD; have h2 := unhide HK21; have h3 := unhide HK22; exact ⟨by omega, by omega⟩, unhide HG⟩
        case measure => simp [intOf]; omega
    · have hE : kn0 = k := by omega
      subst hE
      have hki : ¬ (kn0 : Int) < (kn0 : Int) := by omega
      have HRES := hide (unhide HG).res
      obtain ⟨z0, z1, z2, z3⟩ := box4 (unhide HG).made
      have HFN := hide (fun cs => (unhide HG).fin cs)
      have HEK : Hid (kn = m.keys.length ∧ gn = m.kids.length ∧ ks = m.keys ∧ gs = m.kids) := by
        obtain ⟨e1, e2⟩ := unhide HL
        have e3 := unhide HFK
        have e4 := unhide HFG
        rw [← e1] at e3
        rw [← e2] at e4
        exact ⟨by rw [(unhide HG).ek, e3], by rw [(unhide HG).eg, e4], e3, e4⟩
      go_wp2_with (first
        | ((with_reducible refine wpList_store_node (by rfl) (.tmp 4) (.tmp 62) (by rfl) (N + 1) false none 0 0 ka kn kc ga gn gc (by with_unfolding_all rfl) (by with_unfolding_all rfl) (unhide HRES) ?_); intro W9 HX9 HE9; simp only [Act.put])
        | fail)
      have HZ : Hid (Ow W9 N [] ks gs ⟨none, 0, ka, kc, ga, gc⟩ ∧ Below N u W9) := by rw [unhide HE9]; exact unhide HFN _
      refine bodyPost_ret (results_cell_tmp rfl _ _ (N + 1) 26 #[.bool false, .slice none 0 0, .slice ka kn kc, .slice ga gn gc] (0, 0) _ rfl (unhide HX9) nodeUnd rfl nodeInfo) rfl ?_
      obtain ⟨e1, e2, e3, e4⟩ := unhide HEK
      refine ⟨⟨none, 0, ka, kc, ga, gc⟩, by rw [unhide HFV, ← e1, ← e2]; rfl, ?_, (unhide HZ).2⟩
      rw [unhide HFC, ← e3, ← e4]
      exact (unhide HZ).1
end
section
open Go.RowKit
def Nd.turn (n : Nd) (i : Nat) (key : ByteArray) : Nd := ⟨false, [], n.keys.take i ++ (key :: n.keys.drop (i + 1)), n.kids⟩
theorem bsG0 (W : World) : (Instr.buildSlice 24 0 #[]).run Try.prog W = .ok (.slice (some ⟨W.heap.size, 0, none⟩) 0 0) (W.alloc (.cells #[] 50)) := by kernel_rfl
theorem own_empty (W : World) (B : Nat) (hB : B ≤ W.heap.size) : (W.alloc (.cells #[] 50)).ownsRow B 50 1 (.slice (some ⟨W.heap.size, 0, none⟩) 0 0) 0 [] :=
  ⟨rfl, .inr ⟨W.heap.size, 0, #[], rfl, hB, heap_alloc_new _ _, Nat.le_refl _, by decide, rfl, rfl⟩⟩
/-- all kids put behind none -/
theorem wpList_allG {ops : Array Oper} {rest : List Oper} {o : Oper} {a : Act} {w : World} {Q : Exit → Act → World → Prop} (hgd : o.guard = none) (s x : Operand) (ho : o.op = .call { callee := .builtin .append, args := #[s, x], argTypes := #[24, 24] }) (d : Option Tmp) (hd : o.dst = d)
    (B : Nat) (hB : B ≤ w.heap.size) (gs : List Nat) (n : Nat) (en : n = gs.length) (ao : Option Addr) (c : Nat) (hl : Lies w ao (flatG gs)) (h0 : 0 < n) (hn : n ≤ 2000000) (hs : a.eval s = .slice (some ⟨w.heap.size, 0, none⟩) 0 0) (hx : a.eval x = .slice ao n c)
    (hK : ∀ xo cp w2, Hid (w2.ownsRow B 50 1 (.slice xo n cp) n (flatG gs)) → Hid (Below w.heap.size w w2) → wpList Try.prog ops Q rest (a.put d (.slice xo n cp)) w2) : wpList Try.prog ops Q (o :: rest) a (w.alloc (.cells #[] 50)) := by
  subst hd en
  obtain ⟨g, o', rfl, hr⟩ := hl (by rw [flatG_len]; exact h0)
  obtain ⟨i1, hi1⟩ := kid_parts
  have hbe : Below w.heap.size w (w.alloc (.cells #[] 50)) := (Below.refl _ _).alloc (Nat.le_refl _) _
  refine W.wpList_put _ hgd s x 24 ho B 50 i1 (.int .u32 0) 1 4 undG hi1.1 hi1.2.1 hi1.2.2.1 hi1.2.2.2 rfl (by decide) (.slice (some ⟨w.heap.size, 0, none⟩) 0 0) 0 [] hs (own_empty w B hB) ⟨g, o', none⟩ gs.length c (flatG gs) hx (by rw [flatG_len, Nat.mul_one]) (fun j v hv => by
    rw [Addr.add_mid]
    exact (hbe.cell (p := ⟨g, o' + j, none⟩) (World.block_lt_of_cell? w _ (hr j v hv))).trans (hr j v hv)) (flatG_one _) (by simp only [maxLen]; omega) (by omega) (by simp; omega) ?_
  intro v' w2 hown' hgrow _
  obtain ⟨ao2, cp, rfl⟩ := W.owns_shape hown'
  have hb2 : Below w.heap.size w w2 := hbe.grown hgrow (by simp) (fun k hk => by cases hk; exact Nat.le_refl _)
  rw [Nat.zero_add, List.nil_append] at hown'
  rw [Nat.zero_add]
  exact hK ao2 cp w2 hown' hb2
theorem neqNil (g o n c : Nat) (W : World) : (binOp .eql 24 (.slice (some ⟨g, o, none⟩) n c) (.slice none 0 0)).run Try.prog W = .ok (.bool false) W := by
  first | kernel_rfl | (have hu := undG; simp [binOp, hu])
set_option maxRecDepth 100000 in
set_option maxHeartbeats 2000000 in
theorem nCloneG (gs : List Nat) (n : Nat) (en : n = gs.length) (ao : Option Addr) (c : Nat) (u : World) (hl : Lies u ao (flatG gs)) (h0 : 0 < n) (hn : n ≤ 2000000) : Calls Try.prog 96 #[.slice ao n c] u fun e u' => ∃ xo cp, e = .returned (.slice xo n cp) ∧ u'.ownsRow u.heap.size 50 1 (.slice xo n cp) n (flatG gs) ∧ Below u.heap.size u u' := by
  obtain ⟨g, o, hao⟩ : ∃ g o, ao = some ⟨g, o, none⟩ := by
    obtain ⟨g, o, h1, _⟩ := hl (by rw [flatG_len, ← en]; exact h0)
    exact ⟨g, o, h1⟩
  subst hao
  have HL := hide hl
  have hne := neqNil g o n c
  have HEN := hide en
  have HH0 := hide h0
  have HHN := hide hn
  clear hl en h0 hn
  go_enter Try.func96, Try.ntmps96
  go_wp2_with (first
    | (at_builtin; refine wpList_allG (by rfl) (.tmp 5) (.tmp 6) (by rfl) (some 7) (by rfl) u.heap.size (Nat.le_refl _) gs n (unhide HEN) (some ⟨g, o, none⟩) c (unhide HL) (unhide HH0) (unhide HHN) (by rfl) (by rfl) ?_; intro xo cp w2 HO2 HB2; simp only [Act.put, List.setIfInBounds_toArray, List.set_cons_zero, List.set_cons_succ])
    | fail)
  go_ret
  exact ⟨xo, cp, rfl, unhide HO2, unhide HB2⟩
theorem entCl : ∀ args (w : World), (callFunc 96 args).run Try.prog w = .ok (.enter 96 args) w := by
  intro args w
  go_simp
open Classical in
set_option maxRecDepth 100000 in
set_option maxHeartbeats 8000000 in
theorem nTurnO (n : Nd) (a : Nv) (i : Nat) (key : ByteArray) (u : World) (h : NdAt u n a) (hc : n.refused false = 0) (hi : i < n.keys.length) (hkey : keyOk key) : Calls Try.prog 52 #[a.v n, .int .i64 (i : Int), .string key] u fun e u' => ∃ V E, e = .returned (.tuple #[V, .int .i64 E]) ∧ GrowRO u' u.heap.size (n.turn i key) V E ∧ Below u.heap.size u u' := by
  have hok := (Nd.refused_zero.1 hc).1
  have hle := hok.lens
  have hkk : n.kids.length = n.keys.length + 1 := by
    have hk := hok.kind
    have hlf := (Nd.refused_zero.1 hc).2
    unfold Nd.Kind at hk
    rw [if_neg (by rw [hlf]; decide)] at hk
    exact hk.2.2
  have H1 := hide (fun (v : World) (hb : Below u.heap.size u v) => nRefused n a false v (h.below hb))
  have H2 := hide (fun v : World => nKeyMay key v)
  rw [decide_eq_true hkey] at H2
  have H3 : Hid (∀ (v : World) (B : Nat), Below u.heap.size u v → Lies v (some ⟨B, 0, none⟩) [.string key] → Calls Try.prog 91 #[.slice a.ka n.keys.length a.kc, .int .i64 (i : Int), .int .i64 ((i + 1 : Nat) : Int), .slice (some ⟨B, 0, none⟩) 1 1] v fun e u' => ∃ r, e = .returned r ∧ ∃ G c, r = .slice (some ⟨G, 0, none⟩) (n.turn i key).keys.length c ∧ v.heap.size ≤ G ∧ (RwK u' G (flatK (n.turn i key).keys) ∧ (n.turn i key).keys.length = c) ∧ Below v.heap.size v u') := fun v B hb hB => by
    have h3 := nSplK (flatK n.keys) (flatK [key]) a.ka (some ⟨B, 0, none⟩) n.keys.length a.kc 1 1 i (i + 1) v (h.below hb).keys (by simp [flatK]) hB rfl (flatK_one _) (flatK_one _) h.cap.2.1 (by omega) (by omega) (by omega) (by decide)
    refine h3.mono ?_
    rintro e w' ⟨G, he, hG, hr, hb'⟩
    have hlen : (n.turn i key).keys.length = i + 1 + (n.keys.length - (i + 1)) := by
      simp only [Nd.turn, List.length_append, List.length_take, List.length_drop, List.length_cons]
      omega
    have hf : flatK (n.turn i key).keys = (flatK n.keys).take (i * 1) ++ (flatK [key] ++ (flatK n.keys).drop ((i + 1) * 1)) := by simp [flatK, Nd.turn, List.map_take, List.map_drop]
    exact ⟨_, he, G, i + 1 + (n.keys.length - (i + 1)), by rw [hlen], hG, ⟨by rw [hf]; exact hr, hlen⟩, hb'⟩
  have H4 : Hid (∀ (v : World), Below u.heap.size u v → Calls Try.prog 96 #[.slice a.ga n.kids.length a.gc] v fun e u' => ∃ r, e = .returned r ∧ ∃ xo c, r = .slice xo n.kids.length c ∧ u'.ownsRow v.heap.size 50 1 (.slice xo n.kids.length c) n.kids.length (flatG (n.turn i key).kids) ∧ Below v.heap.size v u') := fun v hb => by
    refine (nCloneG n.kids n.kids.length rfl a.ga a.gc v (h.below hb).kids (by omega) (by omega)).mono ?_
    rintro e w' ⟨xo, cp, rfl, ho, hb'⟩
    exact ⟨_, rfl, xo, cp, rfl, ho, hb'⟩
  have hnd : ∀ (w : World) (G c : Nat) (xo : Option Addr) (c2 B : Nat), RwK w G (flatK (n.turn i key).keys) → (n.turn i key).keys.length = c → w.ownsRow B 50 1 (.slice xo n.kids.length c2) n.kids.length (flatG (n.turn i key).kids) → NdAt w (n.turn i key) ⟨none, 0, some ⟨G, 0, none⟩, c, xo, c2⟩ := fun w G c xo c2 B l1 e1 l2 => by
    have l3 := own_liesS l2
    refine ⟨Lies.nil _ _, l1.lies, l3.1, h.kid, ⟨by simp [Nd.turn], ?_, h.len.2.2⟩, (fun c hc => by cases hc), ⟨Nat.le_refl _, Nat.le_of_eq e1, l3.2.1⟩⟩
    simp only [Nd.turn, List.length_append, List.length_take, List.length_drop, List.length_cons]; omega
  have H5 : Hid (∀ (w : World) (G c : Nat) (xo : Option Addr) (c2 B : Nat), RwK w G (flatK (n.turn i key).keys) → (n.turn i key).keys.length = c → w.ownsRow B 50 1 (.slice xo n.kids.length c2) n.kids.length (flatG (n.turn i key).kids) → Calls Try.prog 87 #[.agg #[.bool false, .slice none 0 0, .slice (some ⟨G, 0, none⟩) (n.turn i key).keys.length c, .slice xo n.kids.length c2]] w fun e w' => ∃ r, e = .returned r ∧ ∃ (ko : Option Addr) (kq kp : Nat) (go : Option Addr) (gq gp : Nat) (E : Int), r = .tuple #[.agg #[.bool false, .slice none 0 0, .slice ko kq kp, .slice go gq gp], .int .i64 E] ∧ (((n.turn i key).check = 0 ∧ E = 0 ∧ ko = some ⟨G, 0, none⟩ ∧ kq = (n.turn i key).keys.length ∧ kp = c ∧ go = xo ∧ gq = n.kids.length ∧ gp = c2) ∨ ((n.turn i key).check ≠ 0 ∧ E = (n.turn i key).check ∧ ko = none ∧ kq = 0 ∧ kp = 0 ∧ go = none ∧ gq = 0 ∧ gp = 0)) ∧ Below w.heap.size w w') := fun w G c xo c2 B l1 e1 l2 => by
    refine (nChecked (n.turn i key) _ w (hnd w G c xo c2 B l1 e1 l2)).mono ?_
    rintro e w' ⟨hz, hnz, hb⟩
    by_cases h0 : (n.turn i key).check = 0
    · exact ⟨_, hz h0, _, _, _, _, _, _, 0, rfl, .inl ⟨h0, rfl, rfl, rfl, rfl, rfl, rfl, rfl⟩, hb⟩
    · exact ⟨_, hnz h0, none, 0, 0, none, 0, 0, _, rfl, .inr ⟨h0, rfl, rfl, rfl, rfl, rfl, rfl, rfl⟩, hb⟩
  have hkb : (n.turn i key).keys.length ≤ 1000000 := by
    simp only [Nd.turn, List.length_append, List.length_take, List.length_drop, List.length_cons]; omega
  have HFIN : Hid (∀ (w' : World) (B G c : Nat) (xo : Option Addr) (c2 : Nat) (ko : Option Addr) (kq kp : Nat) (go : Option Addr) (gq gp : Nat) (E : Int), (((n.turn i key).check = 0 ∧ E = 0 ∧ ko = some ⟨G, 0, none⟩ ∧ kq = (n.turn i key).keys.length ∧ kp = c ∧ go = xo ∧ gq = n.kids.length ∧ gp = c2) ∨ ((n.turn i key).check ≠ 0 ∧ E = (n.turn i key).check ∧ ko = none ∧ kq = 0 ∧ kp = 0 ∧ go = none ∧ gq = 0 ∧ gp = 0)) → RwK w' G (flatK (n.turn i key).keys) → (n.turn i key).keys.length = c → w'.ownsRow (B + 2) 50 1 (.slice xo n.kids.length c2) n.kids.length (flatG (n.turn i key).kids) → B + 2 ≤ G → GrowRO w' B (n.turn i key) (.agg #[.bool false, .slice none 0 0, .slice ko kq kp, .slice go gq gp]) E) := fun w' B G c xo c2 ko kq kp go gq gp E hE l1 e1 l2 q1 => by
    rcases hE with ⟨h0, rfl, rfl, rfl, rfl, rfl, rfl, rfl⟩ | ⟨h0, rfl, rfl, rfl, rfl, rfl, rfl, rfl⟩
    · exact .inl ⟨h0, rfl, ⟨none, 0, some ⟨G, 0, none⟩, _, _, _⟩, rfl, World.ownsRow_nil _ _ _ _, l1.own e1 (by omega) (by rw [← e1]; exact hkb), own_down l2 (by omega)⟩
    · exact .inr ⟨h0, rfl, rfl⟩
  have hii : (i : Int) < (n.keys.length : Int) := by omega
  have hil : (i : Int) ≤ 1993 := by omega
  clear h hok hle hkk hi hnd hkb hkey
  obtain ⟨N, hN⟩ : ∃ N, N = u.heap.size := ⟨_, rfl⟩
  have HN := hide hN
  rw [← hN] at H1 H3 H4 ⊢
  clear hN
  rw [Nv.v_eq] at H1 ⊢
  rw [hc] at H1
  clear hc
  obtain ⟨ca, cc, ka, kc, ga, gc⟩ := a
  generalize n.turn i key = m at *
  generalize m.keys.length = k2 at *
  generalize n.cells.length = cn at *
  generalize n.keys.length = kn at *
  generalize n.kids.length = gn at *
  generalize n.leaf = lf at *
  have hc1 : ((i + 1 : Nat) : Int) = (i : Int) + 1 := by omega
  have hi0 : ¬ (i : Int) < 0 := by omega
  have hi1 : ¬ kn ≤ i := by omega
  go_enter Try.func52, Try.ntmps52
  go_wp2_with (first
    | ((with_reducible refine wpList_box_node (by rfl) (.tmp 0) (by rfl) (some 3) (by rfl) N (unhide HN) lf ca cn cc ka kn kc ga gn gc (by with_unfolding_all rfl) ?_); intro W0 HX0 HB0 HS0; simp only [Act.put, List.setIfInBounds_toArray, List.set_cons_zero, List.set_cons_succ])
    | ((with_reducible refine wpList_alloc_node (by rfl) (by rfl) (some 6) (by rfl) (N + 1) (unhide HS0).symm ?_); intro W1 HX1 HB1 HS1; simp only [Act.put, List.setIfInBounds_toArray, List.set_cons_zero, List.set_cons_succ]; have HX2 := hide (((unhide HB1).block N (Nat.lt_succ_self N)).trans (unhide HX0)); obtain ⟨y0, y1, y2, y3⟩ := box4 (unhide HX2))
    | fail)
  have HG1 : Hid (Gs u W1 N (.cells #[.bool lf, .slice ca cn cc, .slice ka kn kc, .slice ga gn gc] 26 (0, 0)) (.cells #[.bool false, .slice none 0 0, .slice none 0 0, .slice none 0 0] 26 (0, 0))) := ⟨⟨(unhide HB0).trans ((unhide HB1).mono (Nat.le_succ N)), unhide HX2⟩, unhide HX1⟩
  clear HX0 HB0 HS0 HB1 HS1 HX1 HX2
  refine (unhide H1 _ (unhide HG1).1.1).mono ?_
  rintro e W3 ⟨rfl, hb3⟩
  have HG3 := hide ((unhide HG1).below hb3)
  clear hb3 y0 y1 y2 y3 HG1
  obtain ⟨y0, y1, y2, y3⟩ := box4 (unhide HG3).1.2
  go_wp2_with fail
  refine (unhide H2 _).mono ?_
  rintro e W4 ⟨rfl, hw4⟩
  obtain rfl := hw4.symm
  clear hw4
  go_wp2_with fail
  have hmix : Try.prog.follows .mixedOrders = true := by kernel_rfl
  obtain ⟨X0, hX0⟩ : ∃ X, X = W3.drew := ⟨_, rfl⟩
  have HGX0 : Hid (Gs u X0 N (.cells #[.bool lf, .slice ca cn cc, .slice ka kn kc, .slice ga gn gc] 26 (0, 0)) (.cells #[.bool false, .slice none 0 0, .slice none 0 0, .slice none 0 0] 26 (0, 0))) := by rw [hX0]; exact ⟨⟨belowDrewN (unhide HG3).1.1 1, (unhide HG3).1.2⟩, (unhide HG3).2⟩
  refine wp_region_last (fun W => Below N u W ∧ W.heap[N]? = some (.cells #[.bool lf, .slice ca cn cc, .slice ka kn kc, .slice ga gn gc] 26 (0, 0))) 16 hmix (by rw [← hX0]; exact (unhide HGX0).1) fun hS => ?_
  rw [← hX0] at hS ⊢
  clear HG3 hX0 y0 y1 y2 y3
  refine wpAnyL_take 0 30 (.pointer (some ⟨N, 2, none⟩)) [] rfl rfl (by kernel_rfl) (by kernel_rfl) (by kernel_rfl) (by kernel_rfl) (by kernel_rfl) (fun _ _ _ h => h) (by rfl) (fun u _ => by go_simp) hS ?_
  simp only [Act.put, List.setIfInBounds_toArray, List.set_cons_zero, List.set_cons_succ]
  refine wpAnyL_take 1 31 (.slice ka kn kc) [] rfl rfl (by kernel_rfl) (by kernel_rfl) (by kernel_rfl) (by kernel_rfl) (by kernel_rfl) (fun _ _ _ h => h) (by rfl) (fun W hW => by obtain ⟨x0, x1, x2, x3⟩ := box4 hW.2; go_simp) hS ?_
  simp only [Act.put, List.setIfInBounds_toArray, List.set_cons_zero, List.set_cons_succ]
  refine wpAnyL_take 2 32 (.int .i64 (i : Int)) [] rfl rfl (by kernel_rfl) (by kernel_rfl) (by kernel_rfl) (by kernel_rfl) (by kernel_rfl) (fun _ _ _ h => h) (by rfl) (fun u _ => by go_simp) hS ?_
  simp only [Act.put, List.setIfInBounds_toArray, List.set_cons_zero, List.set_cons_succ]
  refine wpAnyL_take 3 33 (.int .i64 (i : Int)) [] rfl rfl (by kernel_rfl) (by kernel_rfl) (by kernel_rfl) (by kernel_rfl) (by kernel_rfl) (fun _ _ _ h => h) (by rfl) (fun u _ => by go_simp) hS ?_
  simp only [Act.put, List.setIfInBounds_toArray, List.set_cons_zero, List.set_cons_succ]
  refine wpAnyL_take 4 34 (.int .i64 ((i + 1 : Nat) : Int)) [] rfl rfl (by kernel_rfl) (by kernel_rfl) (by kernel_rfl) (by kernel_rfl) (by kernel_rfl) (fun _ _ _ h => h) (by rfl) (fun W hW => by rw [hc1]; go_simp; rw [IntKind.wrap_i64]; omega) hS ?_
  simp only [Act.put, List.setIfInBounds_toArray, List.set_cons_zero, List.set_cons_succ]
  refine wpAnyL_take 5 35 (.string key) [] rfl rfl (by kernel_rfl) (by kernel_rfl) (by kernel_rfl) (by kernel_rfl) (by kernel_rfl) (fun _ _ _ h => h) (by rfl) (fun u _ => by go_simp) hS ?_
  simp only [Act.put, List.setIfInBounds_toArray, List.set_cons_zero, List.set_cons_succ]
  refine wpAnyL_take 8 38 (.pointer (some ⟨N, 3, none⟩)) [] rfl rfl (by kernel_rfl) (by kernel_rfl) (by kernel_rfl) (by kernel_rfl) (by kernel_rfl) (fun _ _ _ h => h) (by rfl) (fun u _ => by go_simp) hS ?_
  simp only [Act.put, List.setIfInBounds_toArray, List.set_cons_zero, List.set_cons_succ]
  refine wpAnyL_take 9 39 (.slice ga gn gc) [] rfl rfl (by kernel_rfl) (by kernel_rfl) (by kernel_rfl) (by kernel_rfl) (by kernel_rfl) (fun _ _ _ h => h) (by rfl) (fun W hW => by obtain ⟨x0, x1, x2, x3⟩ := box4 hW.2; go_simp) hS ?_
  simp only [Act.put, List.setIfInBounds_toArray, List.set_cons_zero, List.set_cons_succ]
  refine wpAnyL_one (i := 6) (by kernel_rfl) rfl (by rfl) fun K hK => ?_
  refine wp_buildTo (by rfl) _ _ (by simp only [List.map_toArray, List.map_cons, List.map_nil]; exact bsK X0 _) (some 36) (by rfl) ?_
  obtain ⟨X1, hw2⟩ : ∃ X, X = X0.alloc (.cells #[.string key] 9) := ⟨_, rfl⟩
  obtain ⟨B1, hb2⟩ : ∃ X, X = X0.heap.size := ⟨_, rfl⟩
  have hbe : Below X0.heap.size X0 X1 := by rw [hw2]; exact (Below.refl _ _).alloc (Nat.le_refl _) _
  have HGX1 := hide ((unhide HGX0).below hbe)
  have HQ : Hid (Lies X1 (some ⟨B1, 0, none⟩) [.string key]) := by rw [hw2, hb2]; exact Lies.row (heap_alloc_new _ _)
  rw [← hw2, ← hb2]
  refine hK _ _ (fun _ => (unhide HGX1).1) ?_
  clear hK K hw2 hb2 hbe
  simp only [Act.put, List.setIfInBounds_toArray, List.set_cons_zero, List.set_cons_succ]
  refine wpAnyL_one (i := 7) (by kernel_rfl) rfl (by rfl) fun K hK => ?_
  refine wp_call_fn 91 _ _ (by rfl) #[.slice ka kn kc, .int .i64 (i : Int), .int .i64 ((i + 1 : Nat) : Int), .slice (some ⟨B1, 0, none⟩) 1 1] (by with_unfolding_all rfl) entK (some 37) (by rfl) _ (unhide H3 _ _ (unhide HGX1).1.1 (unhide HQ)) ?_
  rintro _ X2 ⟨G, c4, rfl, hG, hl4, hbe⟩
  have HGX2 := hide ((unhide HGX1).below hbe)
  have HF4 : Hid (N + 2 ≤ G) := hide (Nat.le_trans (unhide HGX1).sz hG)
  have HL4 := hide hl4
  refine hK _ _ (fun _ => (unhide HGX2).1) ?_
  clear hK K hG hl4 hbe
  simp only [Act.put, List.setIfInBounds_toArray, List.set_cons_zero, List.set_cons_succ]
  refine wpAnyL_one (i := 10) (by kernel_rfl) rfl (by rfl) fun K hK => ?_
  refine wp_call_fn 96 _ _ (by rfl) #[.slice ga gn gc] (by with_unfolding_all rfl) entCl (some 40) (by rfl) _ (unhide H4 _ (unhide HGX2).1.1) ?_
  rintro _ W5 ⟨xo, c5, rfl, ho5, hbe⟩
  have HGW5 := hide ((unhide HGX2).below hbe)
  have HL5 := hide (own_down ho5 (unhide HGX2).sz)
  have HL4b := hide ((unhide HL4).1.below hbe)
  refine hK _ _ (fun _ => (unhide HGW5).1) ?_
  clear hK K ho5 hbe
  simp only [Act.put, List.setIfInBounds_toArray, List.set_cons_zero, List.set_cons_succ]
  refine wpAnyL_one (i := 11) (by kernel_rfl) rfl (by rfl) fun K hK => ?_
  refine wp_val (.agg #[.bool false, .slice none 0 0, .slice (some ⟨G, 0, none⟩) k2 c4, .slice xo gn c5]) (by go_simp) (some 41) (by rfl) ?_
  refine hK _ _ (fun _ => (unhide HGW5).1) ?_
  clear hK K
  simp only [Act.put, List.setIfInBounds_toArray, List.set_cons_zero, List.set_cons_succ]
  refine wpAnyL_one (i := 12) (by kernel_rfl) rfl (by rfl) fun K hK => ?_
  refine wp_call_fn 87 _ _ (by rfl) #[.agg #[.bool false, .slice none 0 0, .slice (some ⟨G, 0, none⟩) k2 c4, .slice xo gn c5]] (by with_unfolding_all rfl) entC (some 42) (by rfl) _ (unhide H5 W5 G c4 xo c5 (N + 2) (unhide HL4b) (unhide HL4).2 (unhide HL5)) ?_
  rintro _ W6 ⟨ko, kq, kp, go, gq, gp, E, rfl, hE, hbe⟩
  have HGW6 := hide ((unhide HGW5).below hbe)
  have HE := hide hE
  have HLA := hide ((unhide HL4b).below hbe)
  have HLB : Hid (W6.ownsRow (N + 2) 50 1 (.slice xo gn c5) gn (flatG m.kids)) := own_keep (unhide HL5) fun g hg => hbe.block g ((unhide HL5).lt g hg).2
  refine hK _ _ (fun _ => (unhide HGW6).1) ?_
  clear hK K hE hbe
  simp only [Act.put, List.setIfInBounds_toArray, List.set_cons_zero, List.set_cons_succ]
  refine wpAnyL_take 13 43 (.agg #[.bool false, .slice none 0 0, .slice ko kq kp, .slice go gq gp]) [] rfl rfl (by kernel_rfl) (by kernel_rfl) (by kernel_rfl) (by kernel_rfl) (by kernel_rfl) (fun _ _ _ h => h) (by rfl) (fun u _ => by go_simp) (unhide HGW6).1 ?_
  simp only [Act.put, List.setIfInBounds_toArray, List.set_cons_zero, List.set_cons_succ]
  refine wpAnyL_one (i := 14) (by kernel_rfl) rfl (by rfl) fun K hK => ?_
  refine wp_val (.int .i64 E) (by go_simp) (some 44) (by rfl) ?_
  refine hK _ _ (fun _ => (unhide HGW6).1) ?_
  clear hK K
  simp only [Act.put, List.setIfInBounds_toArray, List.set_cons_zero, List.set_cons_succ]
  refine wpAnyL_one (i := 15) (by kernel_rfl) rfl (by rfl) fun K hK => ?_
  refine wp_store_row 26 (.tmp 6) (.tmp 43) (by rfl) (N + 1) #[.bool false, .slice none 0 0, .slice ko kq kp, .slice go gq gp] (by rfl) (by rfl) 26 _ (unhide HGW6).2 nodeInfo rfl (node_one _ _ _ _ _ _ _ _ _ _) ?_
  obtain ⟨W8, HE8⟩ : ∃ W8, W8 = W6.setRow (N + 1) #[.bool false, .slice none 0 0, .slice ko kq kp, .slice go gq gp] := ⟨_, rfl⟩
  have HX8 : Hid (W8.heap[N + 1]? = some (.cells #[.bool false, .slice none 0 0, .slice ko kq kp, .slice go gq gp] 26 (0, 0))) := by rw [HE8]; exact heapRow_same (unhide HGW6).2 _
  have HZ : Hid (Below N u W8 ∧ RwK W8 G (flatK m.keys) ∧ W8.ownsRow (N + 2) 50 1 (.slice xo gn c5) gn (flatG m.kids)) := by
    rw [HE8]
    exact ⟨belowRow (unhide HGW6).1.1 (Nat.le_succ N) _, (unhide HLA).setRow (N + 1) _ (fun b o e => by cases e; have := unhide HF4; omega), own_keep (unhide HLB) fun g hg => heapRow_other _ _ _ _ (by have := ((unhide HLB).lt g hg).1; omega)⟩
  rw [← HE8]
  refine hK _ _ (fun _ => ⟨(unhide HZ).1, by rw [HE8]; exact (heapRow_other _ _ _ _ (by omega)).trans (unhide HGW6).1.2⟩) ?_
  clear hK K HE8
  simp only [Act.put, List.setIfInBounds_toArray]
  refine wpAnyL_one (i := 16) (by kernel_rfl) rfl (by rfl) fun K hK => ?_
  refine wp_val (.int .i64 E) (by go_simp) (some 7) (by rfl) ?_
  refine hK _ _ (fun h => absurd rfl h) ?_
  clear hK K
  simp only [Act.put]
  refine wpAnyL_done (by kernel_rfl) ?_ _
  go_wp2
  refine bodyPost_ret (results_cell_tmp rfl _ _ (N + 1) 26 #[.bool false, .slice none 0 0, .slice ko kq kp, .slice go gq gp] (0, 0) _ rfl (unhide HX8) nodeUnd rfl nodeInfo) rfl ?_
  exact ⟨_, E, rfl, unhide HFIN W8 N G c4 xo c5 _ _ _ _ _ _ E (unhide HE) (unhide HZ).2.1 (unhide HL4).2 (unhide HZ).2.2 (unhide HF4), (unhide HZ).1⟩
end
section
open Go.RowKit
theorem grow_keys (n : Nd) (i : Nat) (key : ByteArray) (kid : Nat) (hi : i ≤ n.keys.length) : linb n.keys i key (n.keys.length + 1) = (n.grow i key kid).keys := by
  obtain ⟨j, hj⟩ : ∃ j, n.keys.length = i + j := ⟨n.keys.length - i, by omega⟩
  rw [hj, show i + j + 1 = i + 1 + j by omega, linb_all, List.take_of_length_le (l := n.keys.drop i) (by rw [List.length_drop]; omega)]
  rfl
theorem grow_kids (n : Nd) (i : Nat) (key : ByteArray) (kid : Nat) (hi : i < n.kids.length) : lina n.kids i kid n.kids.length = (n.grow i key kid).kids := by
  obtain ⟨j, hj⟩ : ∃ j, n.kids.length = i + 1 + j := ⟨n.kids.length - (i + 1), by omega⟩
  rw [hj, lina_all, List.take_of_length_le (l := n.kids.drop (i + 1)) (by rw [List.length_drop]; omega)]
  rfl
theorem turn_keys (n : Nd) (i : Nat) (key : ByteArray) (hi : i < n.keys.length) : (n.turn i key).keys = n.keys.set i key := by
  rw [List.set_eq_take_append_cons_drop, if_pos hi]; rfl
theorem grow_small {n : Nd} {i : Nat} {key : ByteArray} {kid : Nat} (h : n.Small) (hk : keyOk key) : (n.grow i key kid).Small := by
  refine ⟨fun c hc => (by cases hc), fun k hk2 => ?_⟩
  rcases List.mem_append.1 hk2 with h1 | h1
  · exact h.2 k (List.mem_of_mem_take h1)
  · rcases List.mem_cons.1 h1 with rfl | h1
    · exact hk
    · exact h.2 k (List.mem_of_mem_drop h1)
theorem turn_small {n : Nd} {i : Nat} {key : ByteArray} (h : n.Small) (hk : keyOk key) : (n.turn i key).Small := by
  refine ⟨fun c hc => (by cases hc), fun k hk2 => ?_⟩
  rcases List.mem_append.1 hk2 with h1 | h1
  · exact h.2 k (List.mem_of_mem_take h1)
  · rcases List.mem_cons.1 h1 with rfl | h1
    · exact hk
    · exact h.2 k (List.mem_of_mem_drop h1)
theorem turn_kind {n : Nd} {i : Nat} {key : ByteArray} (hk : n.Kind) (hlf : n.leaf = false) (hi : i < n.keys.length) : (n.turn i key).Kind := by
  unfold Nd.Kind at hk
  rw [if_neg (by rw [hlf]; decide)] at hk
  unfold Nd.Kind
  rw [if_neg (by simp [Nd.turn])]
  refine ⟨hk.1, rfl, ?_⟩
  rw [turn_keys n i key hi, List.length_set]
  exact hk.2.2
/-- what whole answers, of a branch with keys that may be -/
theorem rWholeM (m : Nd) (hm : m.leaf = false ∧ m.cells = []) (hkd : m.Kind) (hsm : m.Small) (kn gn : Nat) (ek : kn = m.keys.length) (eg : gn = m.kids.length) (ka : Option Addr) (kc : Nat) (ga : Option Addr) (gc : Nat) (w : World) (h : NdAt w m ⟨none, 0, ka, kc, ga, gc⟩) :
    Calls Try.prog 95 #[.agg #[.bool false, .slice none 0 0, .slice ka kn kc, .slice ga gn gc]] w fun e w' => ∃ r, e = .returned r ∧ ∃ (ko : Option Addr) (kq kp : Nat) (go : Option Addr) (gq gp : Nat) (E : Int), r = .tuple #[.agg #[.bool false, .slice none 0 0, .slice ko kq kp, .slice go gq gp], .int .i64 E] ∧ ((m.check = 0 ∧ E = 0 ∧ ko = ka ∧ kq = kn ∧ kp = kc ∧ go = ga ∧ gq = gn ∧ gp = gc) ∨ (m.check ≠ 0 ∧ E = m.check ∧ ko = none ∧ kq = 0 ∧ kp = 0 ∧ go = none ∧ gq = 0 ∧ gp = 0)) ∧ Below w.heap.size w w' := by
  have hv : (⟨none, 0, ka, kc, ga, gc⟩ : Nv).v m = .agg #[.bool false, .slice none 0 0, .slice ka kn kc, .slice ga gn gc] := by
    rw [Nv.v_eq, hm.1, hm.2, ek, eg]; rfl
  have h1 := rWhole m _ w h hsm
  rw [hv] at h1
  refine h1.mono ?_
  rintro e w' ⟨rfl, hb⟩
  have hup : m.Up ↔ rises m.keys := by
    unfold Nd.Up; rw [hm.2]
    exact ⟨fun h => h.2, fun h => ⟨fun i hi => absurd hi (by simp), h⟩⟩
  by_cases hr : rises m.keys
  · rw [if_neg (fun hx => hx hr)]
    by_cases hz : 1992 < m.size
    · rw [if_pos hz]
      have hch : m.check = 82 := by unfold Nd.check; rw [if_neg (fun x => x hkd), if_neg (fun x => x hsm), if_neg (fun x => x (hup.2 hr)), if_pos hz]
      exact ⟨_, rfl, none, 0, 0, none, 0, 0, 82, rfl, .inr ⟨by rw [hch]; decide, hch.symm, rfl, rfl, rfl, rfl, rfl, rfl⟩, hb⟩
    · rw [if_neg hz]
      have hch : m.check = 0 := by unfold Nd.check; rw [if_neg (fun x => x hkd), if_neg (fun x => x hsm), if_neg (fun x => x (hup.2 hr)), if_neg hz]
      exact ⟨_, rfl, ka, kn, kc, ga, gn, gc, 0, rfl, .inl ⟨hch, rfl, rfl, rfl, rfl, rfl, rfl, rfl⟩, hb⟩
  · rw [if_pos hr]
    have hch : m.check = 81 := by unfold Nd.check; rw [if_neg (fun x => x hkd), if_neg (fun x => x hsm), if_pos (fun x => hr (hup.1 x))]
    exact ⟨_, rfl, none, 0, 0, none, 0, 0, 81, rfl, .inr ⟨by rw [hch]; decide, hch.symm, rfl, rfl, rfl, rfl, rfl, rfl⟩, hb⟩
open Classical in
set_option maxRecDepth 100000 in
set_option maxHeartbeats 16000000 in
theorem rGrowGo (n : Nd) (a : Nv) (i : Nat) (key : ByteArray) (kid : Nat) (u : World) (h : NdAt u n a) (hc : n.refused false = 0) (hi : i < n.kids.length) (hkey : keyOk key) (hkid : kid ≠ 0) (hkl : kid < 4294967296) : Calls Try.prog 46 #[a.v n, .int .i64 (i : Int), .string key, .int .u32 (kid : Int)] u fun e u' => ∃ V E, e = .returned (.tuple #[V, .int .i64 E]) ∧ GrowRO u' u.heap.size (n.grow i key kid) V E ∧ Below u.heap.size u u' := by
  have hok := (Nd.refused_zero.1 hc).1
  have hlf := (Nd.refused_zero.1 hc).2
  have hle := hok.lens
  have hkk : n.kids.length = n.keys.length + 1 := by
    have hk := hok.kind
    unfold Nd.Kind at hk
    rw [if_neg (by rw [hlf]; decide)] at hk
    exact hk.2.2
  have hmix : Try.prog.follows .mixedOrders = true := by kernel_rfl
  have H1 := hide (fun (v : World) (hb : Below u.heap.size u v) => rBranch n a v (h.below hb) (fun _ => by omega))
  have H2 := hide (fun v : World => rKeyMay key v)
  rw [decide_eq_true hkey] at H2
  have HSK := hide (srcK h.keys a.kc)
  have HNO0 : Hid (∀ k, ¬ k < n.keys.length → n.keys[k]? = none) := fun k hk => List.getElem?_eq_none (by omega)
  have HSG := hide (srcG h.kids a.gc)
  have HWH0 := hide (fun (w : World) (kn gn : Nat) (ek : kn = (n.grow i key kid).keys.length) (eg : gn = (n.grow i key kid).kids.length) (ka : Option Addr) (kc : Nat) (ga : Option Addr) (gc : Nat) (hw : NdAt w (n.grow i key kid) ⟨none, 0, ka, kc, ga, gc⟩) => rWholeM (n.grow i key kid) ⟨rfl, rfl⟩ (Nd.grow_kind hok.kind hlf (by omega) hkid) (grow_small hok.small hkey) kn gn ek eg ka kc ga gc w hw)
  have HKD : Hid ((∀ x ∈ (n.grow i key kid).kids, x < 4294967296) ∧ (n.grow i key kid).keys.length ≤ 2000000 ∧ (n.grow i key kid).kids.length ≤ 2000000) := by
    refine ⟨fun k hk => ?_, ?_, ?_⟩
    · rcases List.mem_append.1 hk with hk | hk
      · exact h.kid k (List.mem_of_mem_take hk)
      · rcases List.mem_cons.1 hk with rfl | hk
        · exact hkl
        · exact h.kid k (List.mem_of_mem_drop hk)
    · simp only [Nd.grow, List.length_append, List.length_take, List.length_drop, List.length_cons]; omega
    · simp only [Nd.grow, List.length_append, List.length_take, List.length_drop, List.length_cons]; omega
  have HFK : Hid (linb n.keys i key n.kids.length = (n.grow i key kid).keys) := by rw [hkk]; exact grow_keys n i key kid (by omega)
  have HFG := hide (grow_kids n i key kid hi)
  have hkz : ¬ (kid : Int) = 0 := by omega
  have hkz2 : ((kid : Int) == 0) = false := beq_false_of_ne hkz
  have HFC : Hid ((n.grow i key kid).leaf = false ∧ (n.grow i key kid).cells = []) := ⟨rfl, rfl⟩
  have hkb : n.keys.length ≤ 1992 := hle.2.1
  have hgb : n.kids.length ≤ 1993 := hle.2.2
  have hkbi : (n.keys.length : Int) ≤ 1992 := by omega
  have hgbi : (n.kids.length : Int) ≤ 1993 := by omega
  obtain ⟨N, hN⟩ : ∃ N, N = u.heap.size := ⟨_, rfl⟩
  have HN := hide hN
  have HLG : Hid (∀ W : World, Below N u W → Lies W a.ga (flatG n.kids)) := fun W hW => h.kids.below (by rw [← hN]; exact hW)
  rw [← hN] at H1 HSK HSG ⊢
  have HKK := hide hkk
  clear hN h hok hle hkey hkk hlf
  rw [Nv.v_eq] at H1
  rw [Nv.v_eq n a]
  rw [hc] at H1
  clear hc
  obtain ⟨ca, cc, xk, xkc, xg, xgc⟩ := a
  generalize n.grow i key kid = m at *
  generalize n.cells.length = cn at *
  generalize n.keys.length = kn0 at *
  generalize n.kids.length = gn0 at *
  generalize n.leaf = lf at *
  have hi0 : ¬ (i : Int) < 0 := by omega
  have hi1 : ¬ (gn0 : Int) ≤ (i : Int) := by omega
  have hi2 : ¬ gn0 ≤ i := by omega
  go_enter Try.func46, Try.ntmps46
  go_wp2_with (first
    | ((with_reducible refine wpList_box_node (by rfl) (.tmp 0) (by rfl) (some 4) (by rfl) N (unhide HN) lf ca cn cc xk kn0 xkc xg gn0 xgc (by with_unfolding_all rfl) ?_); intro W0 HX0 HB0 HS0; simp only [Act.put, List.setIfInBounds_toArray, List.set_cons_zero, List.set_cons_succ])
    | ((with_reducible refine wpList_alloc_node (by rfl) (by rfl) (some 8) (by rfl) (N + 1) (unhide HS0).symm ?_); intro W1 HX1 HB1 HS1; simp only [Act.put, List.setIfInBounds_toArray, List.set_cons_zero, List.set_cons_succ]; have HX2 := hide (((unhide HB1).block N (Nat.lt_succ_self N)).trans (unhide HX0)); obtain ⟨y0, y1, y2, y3⟩ := box4 (unhide HX2))
    | fail)
  have HG1 : Hid (Gs u W1 N (.cells #[.bool lf, .slice ca cn cc, .slice xk kn0 xkc, .slice xg gn0 xgc] 26 (0, 0)) (.cells #[.bool false, .slice none 0 0, .slice none 0 0, .slice none 0 0] 26 (0, 0))) := ⟨⟨(unhide HB0).trans ((unhide HB1).mono (Nat.le_succ N)), unhide HX2⟩, unhide HX1⟩
  clear HX0 HB0 HS0 HB1 HS1 HX1 HX2
  refine (unhide H1 _ (unhide HG1).1.1).mono ?_
  rintro e W3 ⟨rfl, hb3⟩
  have HG3 := hide ((unhide HG1).below hb3)
  clear hb3 y0 y1 y2 y3 HG1 H1
  obtain ⟨y0, y1, y2, y3⟩ := box4 (unhide HG3).1.2
  go_wp2_with fail
  refine (unhide H2 _).mono ?_
  rintro e W4 ⟨rfl, hw4⟩
  obtain rfl := hw4.symm
  clear hw4 H2
  obtain ⟨BX, hBX⟩ : ∃ B : Obj, B = (.cells #[.bool lf, .slice ca cn cc, .slice xk kn0 xkc, .slice xg gn0 xgc] 26 (0, 0)) := ⟨_, rfl⟩
  have HBX := hide hBX
  clear hBX
  obtain ⟨M, hM⟩ : ∃ M, M = W3.heap.size := ⟨_, rfl⟩
  have HM := hide hM
  clear hM
  go_wp2_with (first
    | ((with_reducible refine wpList_alloc_node (by rfl) (by rfl) (some 11) (by rfl) M (unhide HM) ?_); intro W5 HX5 HB5 HS5; simp only [Act.put, List.setIfInBounds_toArray, List.set_cons_zero, List.set_cons_succ])
    | fail)
  have HG5 : Hid (Gn u W5 N M BX [] [] none 0 0 none 0 0) := by
    have hb5 := unhide HB5
    have hmn : N + 2 ≤ M := by rw [unhide HM]; exact (unhide HG3).sz
    rw [unhide HM] at hb5
    have h1 := (unhide HG3).below hb5
    exact ⟨h1.1.1, by rw [unhide HBX]; exact h1.1.2, h1.2, unhide HX5, rfl, rfl, World.ownsRow_nil _ _ _ _, World.ownsRow_nil _ _ _ _, hmn⟩
  have HWHO := hide (fun (w : World) (ks : List ByteArray) (gs : List Nat) (ka : Option Addr) (kn kc : Nat) (ga : Option Addr) (gn gc : Nat) (he : ks = m.keys ∧ gs = m.kids) (hg : Gn u w N M BX ks gs ka kn kc ga gn gc) => unhide HWH0 w kn gn (by rw [hg.ek, he.1]) (by rw [hg.eg, he.2]) ka kc ga gc (by
    have h1 := hg.at (by rw [he.2]; exact (unhide HKD).1) ⟨by rw [hg.ek, he.1]; exact (unhide HKD).2.1, by rw [hg.eg, he.2]; exact (unhide HKD).2.2⟩
    rw [he.1, he.2] at h1
    have h2 : m = ⟨false, [], m.keys, m.kids⟩ := by
      obtain ⟨l, c, k, g⟩ := m
      obtain ⟨e1, e2⟩ := unhide HFC
      simp only at e1 e2
      rw [e1, e2]
    rw [h2]; exact h1))
  clear HX5 HB5 HS5 HG3 HM y0 y1 y2 y3 HWH0 HKD
  go_wp2_with fail
  go_loopw [12] (fun s8 wr => ∃ (k : Nat) (ks : List ByteArray) (gs : List Nat) (ka : Option Addr) (kn kc : Nat) (ga : Option Addr) (gn gc : Nat), s8 = .int .i64 (k : Int) ∧ k ≤ gn0 ∧ Hid (ks = linb n.keys i key k ∧ gs = lina n.kids i kid k) ∧ Hid (kn ≤ 2 * k ∧ gn ≤ 2 * k) ∧ Hid (Gn u wr N M BX ks gs ka kn kc ga gn gc)) (fun s8 _ => gn0 - (intOf s8).toNat)
  case atStart => exact ⟨0, [], [], none, 0, 0, none, 0, 0, rfl, Nat.zero_le _, ⟨rfl, rfl⟩, ⟨Nat.le_refl _, Nat.le_refl _⟩, unhide HG5⟩
  case round =>
    clear HG5
    obtain ⟨k, ks, gs, ka, kn, kc, ga, gn, gc, rfl, hk, HL, HBD, HG⟩ := hrel
    have hb4 := (unhide HG).box
    rw [unhide HBX] at hb4
    obtain ⟨y0, y1, y2, y3⟩ := box4 hb4
    obtain ⟨z0, z1, z2, z3⟩ := box4 (unhide HG).made
    clear hb4
    by_cases hlt : k < gn0
    · have hki : (k : Int) < (gn0 : Int) := by omega
      obtain ⟨q2, sg2, so2, hq2, hix2, hsc2⟩ := unhide HSG k hlt
      have HSC2 := hide hsc2
      have HQ2 := hide hq2
      have HBK : Hid (∀ j, j ≤ kn + 3 → j ≤ 2000000) := fun j hj => by have := (unhide HBD).1; omega
      have HBG : Hid (∀ j, j ≤ gn + 3 → j ≤ 2000000) := fun j hj => by have := (unhide HBD).2; omega
      clear hsc2 hq2 z0 z1 z2 z3
      go_wp2_with fail
      refine wp_region_last (fun W => (Below N u W ∧ W.heap[N]? = some BX) ∧ W.heap[M]? = some (.cells #[.bool false, .slice none 0 0, .slice ka kn kc, .slice ga gn gc] 26 (0, 0))) 10 hmix ⟨⟨belowDrewN (unhide HG).bel 1, (unhide HG).box⟩, (unhide HG).made⟩ fun hS => ?_
      replace HG := hide ((unhide HG).drewN 1)
      generalize hXX : World.drewN _ 1 = X0 at HG
      have hXY : World.drew _ = X0 := hXX
      rw [hXY] at hS ⊢
      clear hXX hXY
      refine wpAnyL_take 0 45 (.pointer (some ⟨M, 3, none⟩)) [] rfl rfl (by kernel_rfl) (by kernel_rfl) (by kernel_rfl) (by kernel_rfl) (by kernel_rfl) (fun _ _ _ h => h) (by rfl) (fun u _ => by go_simp) hS ?_
      simp only [Act.put, List.setIfInBounds_toArray, List.set_cons_zero, List.set_cons_succ]
      refine wpAnyL_take 1 46 (.slice ga gn gc) [] rfl rfl (by kernel_rfl) (by kernel_rfl) (by kernel_rfl) (by kernel_rfl) (by kernel_rfl) (fun _ _ _ h => h) (by rfl) (fun W hW => by obtain ⟨b0, b1, b2, b3⟩ := box4 hW.2; go_simp) hS ?_
      simp only [Act.put, List.setIfInBounds_toArray, List.set_cons_zero, List.set_cons_succ]
      refine wpAnyL_take 2 47 (.pointer (some ⟨N, 3, none⟩)) [] rfl rfl (by kernel_rfl) (by kernel_rfl) (by kernel_rfl) (by kernel_rfl) (by kernel_rfl) (fun _ _ _ h => h) (by rfl) (fun u _ => by go_simp) hS ?_
      simp only [Act.put, List.setIfInBounds_toArray, List.set_cons_zero, List.set_cons_succ]
      refine wpAnyL_take 3 48 (.slice xg gn0 xgc) [] rfl rfl (by kernel_rfl) (by kernel_rfl) (by kernel_rfl) (by kernel_rfl) (by kernel_rfl) (fun _ _ _ h => h) (by rfl) (fun W hW => by rw [unhide HBX] at hW; obtain ⟨b0, b1, b2, b3⟩ := box4 hW.1.2; go_simp) hS ?_
      simp only [Act.put, List.setIfInBounds_toArray, List.set_cons_zero, List.set_cons_succ]
      refine wpAnyL_take 4 49 (.int .i64 (k : Int)) [] rfl rfl (by kernel_rfl) (by kernel_rfl) (by kernel_rfl) (by kernel_rfl) (by kernel_rfl) (fun _ _ _ h => h) (by rfl) (fun u _ => by go_simp) hS ?_
      simp only [Act.put, List.setIfInBounds_toArray, List.set_cons_zero, List.set_cons_succ]
      refine wpAnyL_take 5 50 (.pointer (some ⟨sg2, so2, none⟩)) [] rfl rfl (by kernel_rfl) (by kernel_rfl) (by kernel_rfl) (by kernel_rfl) (by kernel_rfl) (fun _ _ _ h => h) (by rfl) (fun u _ => by go_simp) hS ?_
      simp only [Act.put, List.setIfInBounds_toArray, List.set_cons_zero, List.set_cons_succ]
      refine wpAnyL_take 6 51 (.int .u32 (q2 : Int)) [] rfl rfl (by kernel_rfl) (by kernel_rfl) (by kernel_rfl) (by kernel_rfl) (by kernel_rfl) (fun _ _ _ h => h) (by rfl) (fun W hW => by have e1 := unhide HSC2 W hW.1.1; go_simp) hS ?_
      simp only [Act.put, List.setIfInBounds_toArray, List.set_cons_zero, List.set_cons_succ]
      refine wpAnyL_one (i := 7) (by kernel_rfl) rfl (by rfl) fun K hK => ?_
      refine wp_buildTo (by rfl) _ _ (by simp only [List.map_toArray, List.map_cons, List.map_nil]; exact bsG X0 _) (some 52) (by rfl) ?_
      have HX1 := hide ((unhide HG).below ((Below.refl _ _).alloc (Nat.le_refl _) (.cells #[.int .u32 (q2 : Int)] 50)))
      refine hK _ _ (fun _ => ⟨⟨(unhide HX1).bel, (unhide HX1).box⟩, (unhide HX1).made⟩) ?_
      clear hK K HX1
      simp only [Act.put, List.setIfInBounds_toArray, List.set_cons_zero, List.set_cons_succ]
      refine wpAnyL_one (i := 8) (by kernel_rfl) rfl (by rfl) fun K hK => ?_
      refine (unhide HG).opG (.tmp 46) (.tmp 52) (by rfl) (some 53) (by rfl) q2 (by rfl) (by rfl) (unhide HBG gn (by omega)) ?_
      intro ao1 k21 cp1 w2 HK21 HMD HG2
      refine hK _ _ (fun _ => unhide HMD) ?_
      clear hK K
      simp only [Act.put, List.setIfInBounds_toArray, List.set_cons_zero, List.set_cons_succ]
      refine wpAnyL_one (i := 9) (by kernel_rfl) rfl (by rfl) fun K hK => ?_
      refine wp_val (.pointer (some ⟨M, 3, none⟩)) (by go_simp) (some 54) (by rfl) ?_
      refine hK _ _ (fun _ => unhide HMD) ?_
      clear hK K
      simp only [Act.put, List.setIfInBounds_toArray, List.set_cons_zero, List.set_cons_succ]
      refine wpAnyL_one (i := 10) (by kernel_rfl) rfl (by rfl) fun K hK => ?_
      refine wp_store_val 24 (.tmp 54) (.tmp 53) (by rfl) (by rfl) M 3 ao1 k21 cp1 (by rfl) (by rfl) (made_there (unhide HMD).2 (by simp)) (by kernel_rfl) ?_
      refine hK _ _ (fun h => absurd rfl h) ?_
      clear hK K
      refine wpAnyL_done (by kernel_rfl) ?_ _
      generalize World.setCell w2 _ _ = X5 at HG2 ⊢
      replace HG := HG2
      clear HMD HG2 hS
      clear y0 y1 y2 y3
      have hb4 := (unhide HG).box
      rw [unhide HBX] at hb4
      obtain ⟨y0, y1, y2, y3⟩ := box4 hb4
      obtain ⟨z0, z1, z2, z3⟩ := box4 (unhide HG).made
      clear hb4
      by_cases hki2 : k = i
      · have hkb1 : ((k : Int) == (i : Int)) = true := by rw [beq_iff_eq]; omega
        have hkb2 : (k : Int) = (i : Int) := by omega
        go_upto_region 13 with (first
          | (at_builtin; refine (unhide HG).wpG (by rfl) (.tmp 59) (.tmp 61) (by rfl) (some 62) (by rfl) kid (by rfl) (by rfl) (unhide HBG _ (by have := unhide HK21; omega)) ?_; intro ao2 k22 cp2 w2 HK22 HMD HG2; simp only [Act.put, List.setIfInBounds_toArray, List.set_cons_zero, List.set_cons_succ]; clear z0 z1 z2 z3; obtain ⟨z0, z1, z2, z3⟩ := box4 (unhide HMD).2; have zf := row_free (unhide HMD).2 3)
          | fail)
        generalize World.setCell w2 _ _ = X6 at HG2 ⊢
        replace HG := HG2
        clear HMD HG2 z0 z1 z2 z3 zf y0 y1 y2 y3
        have hb4 := (unhide HG).box
        rw [unhide HBX] at hb4
        obtain ⟨y0, y1, y2, y3⟩ := box4 hb4
        obtain ⟨z0, z1, z2, z3⟩ := box4 (unhide HG).made
        clear hb4
        go_upto_region 14 with (first
          | (at_builtin; refine (unhide HG).wpK (by rfl) (.tmp 65) (.tmp 67) (by rfl) (some 68) (by rfl) key (by rfl) (by rfl) (unhide HBK _ (by omega)) ?_; intro ao3 k23 cp3 w2 HK23 HMD HG2; simp only [Act.put, List.setIfInBounds_toArray, List.set_cons_zero, List.set_cons_succ]; clear z0 z1 z2 z3; obtain ⟨z0, z1, z2, z3⟩ := box4 (unhide HMD).2; have zf := row_free (unhide HMD).2 2)
          | fail)
        generalize World.setCell w2 _ _ = X6 at HG2 ⊢
        replace HG := HG2
        clear HMD HG2 z0 z1 z2 z3 zf y0 y1 y2 y3
        have hb4 := (unhide HG).box
        rw [unhide HBX] at hb4
        obtain ⟨y0, y1, y2, y3⟩ := box4 hb4
        obtain ⟨z0, z1, z2, z3⟩ := box4 (unhide HG).made
        clear hb4
        have HKI2 := hide hki2
        clear hkb1 hkb2 hki2
        by_cases hkl2 : k < kn0
        · have hkli : (k : Int) < (kn0 : Int) := by omega
          obtain ⟨q, sg, so, hq, hix, hsc⟩ := unhide HSK k hkl2
          have HSC := hide hsc
          have HQ := hide hq
          clear hsc hq z0 z1 z2 z3
          go_wp2_with fail
          refine wp_region_last (fun W => (Below N u W ∧ W.heap[N]? = some BX) ∧ W.heap[M]? = some (.cells #[.bool false, .slice none 0 0, .slice ao3 k23 cp3, .slice ao2 k22 cp2] 26 (0, 0))) 10 hmix ⟨⟨belowDrewN (unhide HG).bel 1, (unhide HG).box⟩, (unhide HG).made⟩ fun hS => ?_
          replace HG := hide ((unhide HG).drewN 1)
          generalize hXX : World.drewN _ 1 = X0 at HG
          have hXY : World.drew _ = X0 := hXX
          rw [hXY] at hS ⊢
          clear hXX hXY
          refine wpAnyL_take 0 75 (.pointer (some ⟨M, 2, none⟩)) [] rfl rfl (by kernel_rfl) (by kernel_rfl) (by kernel_rfl) (by kernel_rfl) (by kernel_rfl) (fun _ _ _ h => h) (by rfl) (fun u _ => by go_simp) hS ?_
          simp only [Act.put, List.setIfInBounds_toArray, List.set_cons_zero, List.set_cons_succ]
          refine wpAnyL_take 1 76 (.slice ao3 k23 cp3) [] rfl rfl (by kernel_rfl) (by kernel_rfl) (by kernel_rfl) (by kernel_rfl) (by kernel_rfl) (fun _ _ _ h => h) (by rfl) (fun W hW => by obtain ⟨b0, b1, b2, b3⟩ := box4 hW.2; go_simp) hS ?_
          simp only [Act.put, List.setIfInBounds_toArray, List.set_cons_zero, List.set_cons_succ]
          refine wpAnyL_take 2 77 (.pointer (some ⟨N, 2, none⟩)) [] rfl rfl (by kernel_rfl) (by kernel_rfl) (by kernel_rfl) (by kernel_rfl) (by kernel_rfl) (fun _ _ _ h => h) (by rfl) (fun u _ => by go_simp) hS ?_
          simp only [Act.put, List.setIfInBounds_toArray, List.set_cons_zero, List.set_cons_succ]
          refine wpAnyL_take 3 78 (.slice xk kn0 xkc) [] rfl rfl (by kernel_rfl) (by kernel_rfl) (by kernel_rfl) (by kernel_rfl) (by kernel_rfl) (fun _ _ _ h => h) (by rfl) (fun W hW => by rw [unhide HBX] at hW; obtain ⟨b0, b1, b2, b3⟩ := box4 hW.1.2; go_simp) hS ?_
          simp only [Act.put, List.setIfInBounds_toArray, List.set_cons_zero, List.set_cons_succ]
          refine wpAnyL_take 4 79 (.int .i64 (k : Int)) [] rfl rfl (by kernel_rfl) (by kernel_rfl) (by kernel_rfl) (by kernel_rfl) (by kernel_rfl) (fun _ _ _ h => h) (by rfl) (fun u _ => by go_simp) hS ?_
          simp only [Act.put, List.setIfInBounds_toArray, List.set_cons_zero, List.set_cons_succ]
          refine wpAnyL_take 5 80 (.pointer (some ⟨sg, so, none⟩)) [] rfl rfl (by kernel_rfl) (by kernel_rfl) (by kernel_rfl) (by kernel_rfl) (by kernel_rfl) (fun _ _ _ h => h) (by rfl) (fun u _ => by go_simp) hS ?_
          simp only [Act.put, List.setIfInBounds_toArray, List.set_cons_zero, List.set_cons_succ]
          refine wpAnyL_take 6 81 (.string q) [] rfl rfl (by kernel_rfl) (by kernel_rfl) (by kernel_rfl) (by kernel_rfl) (by kernel_rfl) (fun _ _ _ h => h) (by rfl) (fun W hW => by have e1 := unhide HSC W hW.1.1; go_simp) hS ?_
          simp only [Act.put, List.setIfInBounds_toArray, List.set_cons_zero, List.set_cons_succ]
          refine wpAnyL_one (i := 7) (by kernel_rfl) rfl (by rfl) fun K hK => ?_
          refine wp_buildTo (by rfl) _ _ (by simp only [List.map_toArray, List.map_cons, List.map_nil]; exact bsK X0 _) (some 82) (by rfl) ?_
          have HX1 := hide ((unhide HG).below ((Below.refl _ _).alloc (Nat.le_refl _) (.cells #[.string q] 9)))
          refine hK _ _ (fun _ => ⟨⟨(unhide HX1).bel, (unhide HX1).box⟩, (unhide HX1).made⟩) ?_
          clear hK K HX1
          simp only [Act.put, List.setIfInBounds_toArray, List.set_cons_zero, List.set_cons_succ]
          refine wpAnyL_one (i := 8) (by kernel_rfl) rfl (by rfl) fun K hK => ?_
          refine (unhide HG).opK (.tmp 76) (.tmp 82) (by rfl) (some 83) (by rfl) q (by rfl) (by rfl) (unhide HBK _ (by have := unhide HK23; omega)) ?_
          intro ao9 k29 cp9 w2 HK29 HMD HG2
          refine hK _ _ (fun _ => unhide HMD) ?_
          clear hK K
          simp only [Act.put, List.setIfInBounds_toArray, List.set_cons_zero, List.set_cons_succ]
          refine wpAnyL_one (i := 9) (by kernel_rfl) rfl (by rfl) fun K hK => ?_
          refine wp_val (.pointer (some ⟨M, 2, none⟩)) (by go_simp) (some 84) (by rfl) ?_
          refine hK _ _ (fun _ => unhide HMD) ?_
          clear hK K
          simp only [Act.put, List.setIfInBounds_toArray, List.set_cons_zero, List.set_cons_succ]
          refine wpAnyL_one (i := 10) (by kernel_rfl) rfl (by rfl) fun K hK => ?_
          refine wp_store_val 23 (.tmp 84) (.tmp 83) (by rfl) (by rfl) M 2 ao9 k29 cp9 (by rfl) (by rfl) (made_there (unhide HMD).2 (by simp)) (by kernel_rfl) ?_
          refine hK _ _ (fun h => absurd rfl h) ?_
          clear hK K
          refine wpAnyL_done (by kernel_rfl) ?_ _
          generalize World.setCell w2 _ _ = X5 at HG2 ⊢
          replace HG := HG2
          clear HMD HG2 hS
          go_wp2
          go_roundw
          case rel =>
            refine ⟨k + 1, (ks ++ [key]) ++ [q], ((gs ++ [q2]) ++ [kid]), ao9, k29, cp9, ao2, k22, cp2, by go_num, hlt, ⟨?_, ?_⟩, ?_, unhide HG⟩
            · rw [linb, if_pos (unhide HKI2), unhide HQ, (unhide HL).1]; simp
            · rw [lina, if_pos (unhide HKI2), unhide HQ2, (unhide HL).2]; simp
            · have h1 := unhide HBD; have h2 := unhide HK21; have h9 := unhide HK29; have h3 := unhide HK22; have h4 := unhide HK23; exact ⟨by omega, by omega⟩
          case measure => simp [intOf]; omega
        · have hkli : ¬ (k : Int) < (kn0 : Int) := by omega
          have HNO : Hid (n.keys[k]? = none) := unhide HNO0 k hkl2
          go_wp2_with fail
          go_roundw
          case rel =>
            refine ⟨k + 1, (ks ++ [key]), ((gs ++ [q2]) ++ [kid]), ao3, k23, cp3, ao2, k22, cp2, by go_num, hlt, ⟨?_, ?_⟩, ?_, unhide HG⟩
            · rw [linb, if_pos (unhide HKI2), unhide HNO, (unhide HL).1]; simp
            · rw [lina, if_pos (unhide HKI2), unhide HQ2, (unhide HL).2]; simp
            · have h1 := unhide HBD; have h2 := unhide HK21; have h3 := unhide HK22; have h4 := unhide HK23; exact ⟨by omega, by omega⟩
          case measure => simp [intOf]; omega
      · have hkb1 : ((k : Int) == (i : Int)) = false := by rw [beq_eq_false_iff_ne]; omega
        have hkb2 : ¬ (k : Int) = (i : Int) := by omega
        by_cases hkl2 : k < kn0
        · have hkli : (k : Int) < (kn0 : Int) := by omega
          obtain ⟨q, sg, so, hq, hix, hsc⟩ := unhide HSK k hkl2
          have HSC := hide hsc
          have HQ := hide hq
          clear hsc hq z0 z1 z2 z3
          go_wp2_with fail
          refine wp_region_last (fun W => (Below N u W ∧ W.heap[N]? = some BX) ∧ W.heap[M]? = some (.cells #[.bool false, .slice none 0 0, .slice ka kn kc, .slice ao1 k21 cp1] 26 (0, 0))) 10 hmix ⟨⟨belowDrewN (unhide HG).bel 1, (unhide HG).box⟩, (unhide HG).made⟩ fun hS => ?_
          replace HG := hide ((unhide HG).drewN 1)
          generalize hXX : World.drewN _ 1 = X0 at HG
          have hXY : World.drew _ = X0 := hXX
          rw [hXY] at hS ⊢
          clear hXX hXY
          refine wpAnyL_take 0 75 (.pointer (some ⟨M, 2, none⟩)) [] rfl rfl (by kernel_rfl) (by kernel_rfl) (by kernel_rfl) (by kernel_rfl) (by kernel_rfl) (fun _ _ _ h => h) (by rfl) (fun u _ => by go_simp) hS ?_
          simp only [Act.put, List.setIfInBounds_toArray, List.set_cons_zero, List.set_cons_succ]
          refine wpAnyL_take 1 76 (.slice ka kn kc) [] rfl rfl (by kernel_rfl) (by kernel_rfl) (by kernel_rfl) (by kernel_rfl) (by kernel_rfl) (fun _ _ _ h => h) (by rfl) (fun W hW => by obtain ⟨b0, b1, b2, b3⟩ := box4 hW.2; go_simp) hS ?_
          simp only [Act.put, List.setIfInBounds_toArray, List.set_cons_zero, List.set_cons_succ]
          refine wpAnyL_take 2 77 (.pointer (some ⟨N, 2, none⟩)) [] rfl rfl (by kernel_rfl) (by kernel_rfl) (by kernel_rfl) (by kernel_rfl) (by kernel_rfl) (fun _ _ _ h => h) (by rfl) (fun u _ => by go_simp) hS ?_
          simp only [Act.put, List.setIfInBounds_toArray, List.set_cons_zero, List.set_cons_succ]
          refine wpAnyL_take 3 78 (.slice xk kn0 xkc) [] rfl rfl (by kernel_rfl) (by kernel_rfl) (by kernel_rfl) (by kernel_rfl) (by kernel_rfl) (fun _ _ _ h => h) (by rfl) (fun W hW => by rw [unhide HBX] at hW; obtain ⟨b0, b1, b2, b3⟩ := box4 hW.1.2; go_simp) hS ?_
          simp only [Act.put, List.setIfInBounds_toArray, List.set_cons_zero, List.set_cons_succ]
          refine wpAnyL_take 4 79 (.int .i64 (k : Int)) [] rfl rfl (by kernel_rfl) (by kernel_rfl) (by kernel_rfl) (by kernel_rfl) (by kernel_rfl) (fun _ _ _ h => h) (by rfl) (fun u _ => by go_simp) hS ?_
          simp only [Act.put, List.setIfInBounds_toArray, List.set_cons_zero, List.set_cons_succ]
          refine wpAnyL_take 5 80 (.pointer (some ⟨sg, so, none⟩)) [] rfl rfl (by kernel_rfl) (by kernel_rfl) (by kernel_rfl) (by kernel_rfl) (by kernel_rfl) (fun _ _ _ h => h) (by rfl) (fun u _ => by go_simp) hS ?_
          simp only [Act.put, List.setIfInBounds_toArray, List.set_cons_zero, List.set_cons_succ]
          refine wpAnyL_take 6 81 (.string q) [] rfl rfl (by kernel_rfl) (by kernel_rfl) (by kernel_rfl) (by kernel_rfl) (by kernel_rfl) (fun _ _ _ h => h) (by rfl) (fun W hW => by have e1 := unhide HSC W hW.1.1; go_simp) hS ?_
          simp only [Act.put, List.setIfInBounds_toArray, List.set_cons_zero, List.set_cons_succ]
          refine wpAnyL_one (i := 7) (by kernel_rfl) rfl (by rfl) fun K hK => ?_
          refine wp_buildTo (by rfl) _ _ (by simp only [List.map_toArray, List.map_cons, List.map_nil]; exact bsK X0 _) (some 82) (by rfl) ?_
          have HX1 := hide ((unhide HG).below ((Below.refl _ _).alloc (Nat.le_refl _) (.cells #[.string q] 9)))
          refine hK _ _ (fun _ => ⟨⟨(unhide HX1).bel, (unhide HX1).box⟩, (unhide HX1).made⟩) ?_
          clear hK K HX1
          simp only [Act.put, List.setIfInBounds_toArray, List.set_cons_zero, List.set_cons_succ]
          refine wpAnyL_one (i := 8) (by kernel_rfl) rfl (by rfl) fun K hK => ?_
          refine (unhide HG).opK (.tmp 76) (.tmp 82) (by rfl) (some 83) (by rfl) q (by rfl) (by rfl) (unhide HBK _ (by omega)) ?_
          intro ao9 k29 cp9 w2 HK29 HMD HG2
          refine hK _ _ (fun _ => unhide HMD) ?_
          clear hK K
          simp only [Act.put, List.setIfInBounds_toArray, List.set_cons_zero, List.set_cons_succ]
          refine wpAnyL_one (i := 9) (by kernel_rfl) rfl (by rfl) fun K hK => ?_
          refine wp_val (.pointer (some ⟨M, 2, none⟩)) (by go_simp) (some 84) (by rfl) ?_
          refine hK _ _ (fun _ => unhide HMD) ?_
          clear hK K
          simp only [Act.put, List.setIfInBounds_toArray, List.set_cons_zero, List.set_cons_succ]
          refine wpAnyL_one (i := 10) (by kernel_rfl) rfl (by rfl) fun K hK => ?_
          refine wp_store_val 23 (.tmp 84) (.tmp 83) (by rfl) (by rfl) M 2 ao9 k29 cp9 (by rfl) (by rfl) (made_there (unhide HMD).2 (by simp)) (by kernel_rfl) ?_
          refine hK _ _ (fun h => absurd rfl h) ?_
          clear hK K
          refine wpAnyL_done (by kernel_rfl) ?_ _
          generalize World.setCell w2 _ _ = X5 at HG2 ⊢
          replace HG := HG2
          clear HMD HG2 hS
          go_wp2
          go_roundw
          case rel =>
            refine ⟨k + 1, ks ++ [q], (gs ++ [q2]), ao9, k29, cp9, ao1, k21, cp1, by go_num, hlt, ⟨?_, ?_⟩, ?_, unhide HG⟩
            · rw [linb, if_neg hki2, unhide HQ, (unhide HL).1]; simp
            · rw [lina, if_neg hki2, unhide HQ2, (unhide HL).2]; simp
            · have h1 := unhide HBD; have h2 := unhide HK21; have h9 := unhide HK29; exact ⟨by omega, by omega⟩
          case measure => simp [intOf]; omega
        · have hkli : ¬ (k : Int) < (kn0 : Int) := by omega
          have HNO : Hid (n.keys[k]? = none) := unhide HNO0 k hkl2
          go_wp2_with fail
          go_roundw
          case rel =>
            refine ⟨k + 1, ks, (gs ++ [q2]), ka, kn, kc, ao1, k21, cp1, by go_num, hlt, ⟨?_, ?_⟩, ?_, unhide HG⟩
            · rw [linb, if_neg hki2, unhide HNO, (unhide HL).1]; simp
            · rw [lina, if_neg hki2, unhide HQ2, (unhide HL).2]; simp
            · have h1 := unhide HBD; have h2 := unhide HK21; exact ⟨by omega, by omega⟩
          case measure => simp [intOf]; omega
    · have hE : gn0 = k := by omega
      subst hE
      have hki : ¬ (gn0 : Int) < (gn0 : Int) := by omega
      have HEK : Hid (ks = m.keys ∧ gs = m.kids) := by
        obtain ⟨e1, e2⟩ := unhide HL
        have e3 := unhide HFK
        have e4 := unhide HFG
        rw [← e1] at e3
        rw [← e2] at e4
        exact ⟨e3, e4⟩
      clear z0 z1 z2 z3
      have HFN := hide (fun (W' : World) (hb : Below wr.heap.size wr W') (cs : Array Value) => ((unhide HG).below hb).fin cs)
      have HRS := hide (fun (W' : World) (hb : Below wr.heap.size wr W') => ((unhide HG).below hb).res)
      have HWH := hide (unhide HWHO wr ks gs ka kn kc ga gn gc (unhide HEK) (unhide HG))
      obtain ⟨z0, z1, z2, z3⟩ := box4 (unhide HG).made
      go_wp2_with fail
      refine (unhide HWH).mono ?_
      rintro e W6 ⟨_, rfl, ko, kq, kp, go, gq, gp, E, rfl, hE, hbe⟩
      have HE := hide hE
      have HRES := hide (unhide HRS _ hbe)
      have HFN2 := hide (unhide HFN _ hbe)
      clear hE hbe z0 z1 z2 z3 y0 y1 y2 y3
      go_wp2_with (first
        | ((with_reducible refine wpList_store_node (by rfl) (.tmp 8) (.tmp 87) (by rfl) (N + 1) false none 0 0 ko kq kp go gq gp (by with_unfolding_all rfl) (by with_unfolding_all rfl) (unhide HRES) ?_); intro W9 HX9 HE9; simp only [Act.put])
        | fail)
      have HZ : Hid (Ow W9 N [] ks gs ⟨none, 0, ka, kc, ga, gc⟩ ∧ Below N u W9) := by rw [unhide HE9]; exact unhide HFN2 _
      refine bodyPost_ret (results_cell_tmp rfl _ _ (N + 1) 26 #[.bool false, .slice none 0 0, .slice ko kq kp, .slice go gq gp] (0, 0) _ rfl (unhide HX9) nodeUnd rfl nodeInfo) rfl ?_
      refine ⟨_, E, rfl, ?_, (unhide HZ).2⟩
      obtain ⟨e1, e2⟩ := unhide HEK
      have e3 := (unhide HG).ek
      have e4 := (unhide HG).eg
      rcases unhide HE with ⟨h0, d1, d2, d3, d4, d5, d6, d7⟩ | ⟨h0, rfl, rfl, rfl, rfl, rfl, rfl, rfl⟩
      · refine .inl ⟨h0, d1, ⟨none, 0, ka, kc, ga, gc⟩, ?_, ?_⟩
        · rw [d2, d3, d4, d5, d6, d7, Nv.v_eq, (unhide HFC).1, (unhide HFC).2, ← e1, ← e2, ← e3, ← e4]; rfl
        · rw [(unhide HFC).2, ← e1, ← e2]; exact (unhide HZ).1
      · exact .inr ⟨h0, rfl, rfl⟩
end
section
open Go.RowKit
open Classical in
set_option maxRecDepth 100000 in
set_option maxHeartbeats 16000000 in
theorem rTurnGo (n : Nd) (a : Nv) (i : Nat) (key : ByteArray) (u : World) (h : NdAt u n a) (hc : n.refused false = 0) (hi : i < n.keys.length) (hkey : keyOk key) : Calls Try.prog 54 #[a.v n, .int .i64 (i : Int), .string key] u fun e u' => ∃ V E, e = .returned (.tuple #[V, .int .i64 E]) ∧ GrowRO u' u.heap.size (n.turn i key) V E ∧ Below u.heap.size u u' := by
  have hok := (Nd.refused_zero.1 hc).1
  have hlf := (Nd.refused_zero.1 hc).2
  have hle := hok.lens
  have hkk : n.kids.length = n.keys.length + 1 := by
    have hk := hok.kind
    unfold Nd.Kind at hk
    rw [if_neg (by rw [hlf]; decide)] at hk
    exact hk.2.2
  have hmix : Try.prog.follows .mixedOrders = true := by kernel_rfl
  have H1 := hide (fun (v : World) (hb : Below u.heap.size u v) => rBranch n a v (h.below hb) (fun _ => by omega))
  have H2 := hide (fun v : World => rKeyMay key v)
  rw [decide_eq_true hkey] at H2
  have HSK := hide (srcK h.keys a.kc)
  have HNO0 : Hid (∀ k, ¬ k < n.keys.length → n.keys[k]? = none) := fun k hk => List.getElem?_eq_none (by omega)
  have HSG := hide (srcG h.kids a.gc)
  have HWH0 := hide (fun (w : World) (kn gn : Nat) (ek : kn = (n.turn i key).keys.length) (eg : gn = (n.turn i key).kids.length) (ka : Option Addr) (kc : Nat) (ga : Option Addr) (gc : Nat) (hw : NdAt w (n.turn i key) ⟨none, 0, ka, kc, ga, gc⟩) => rWholeM (n.turn i key) ⟨rfl, rfl⟩ (turn_kind hok.kind hlf hi) (turn_small hok.small hkey) kn gn ek eg ka kc ga gc w hw)
  have HKD : Hid ((∀ x ∈ (n.turn i key).kids, x < 4294967296) ∧ (n.turn i key).keys.length ≤ 2000000 ∧ (n.turn i key).kids.length ≤ 2000000) := by
    refine ⟨h.kid, ?_, ?_⟩
    · simp only [Nd.turn, List.length_append, List.length_take, List.length_drop, List.length_cons]; omega
    · show n.kids.length ≤ _; omega
  have HGL : Hid (n.kids.length = (n.turn i key).kids.length) := rfl
  have HKM : Hid (n.kids = (n.turn i key).kids) := rfl
  have HTK : Hid (∀ k q, (n.turn i key).keys[k]? = some q → (n.turn i key).keys.take (k + 1) = (n.turn i key).keys.take k ++ [q]) := fun k q hq => by rw [List.take_add_one, hq]; rfl
  have HMI : Hid ((n.turn i key).keys[i]? = some key) := by rw [turn_keys n i key hi, List.getElem?_set_self hi]; exact rfl
  have HMK : Hid (∀ k q, k ≠ i → n.keys[k]? = some q → (n.turn i key).keys[k]? = some q) := fun k q hk hq => by rw [turn_keys n i key hi, List.getElem?_set_ne (by omega)]; exact hq
  have HML : Hid ((n.turn i key).keys.take n.keys.length = (n.turn i key).keys) := List.take_of_length_le (by rw [turn_keys n i key hi, List.length_set]; exact Nat.le_refl _)
  have HG0 : Hid (0 < n.kids.length ∧ n.kids.length ≤ 2000000) := ⟨by omega, by omega⟩
  have HFC : Hid ((n.turn i key).leaf = false ∧ (n.turn i key).cells = []) := ⟨rfl, rfl⟩
  have hkb : n.keys.length ≤ 1992 := hle.2.1
  have hgb : n.kids.length ≤ 1993 := hle.2.2
  have hkbi : (n.keys.length : Int) ≤ 1992 := by omega
  have hgbi : (n.kids.length : Int) ≤ 1993 := by omega
  obtain ⟨N, hN⟩ : ∃ N, N = u.heap.size := ⟨_, rfl⟩
  have HN := hide hN
  have HLG : Hid (∀ W : World, Below N u W → Lies W a.ga (flatG n.kids)) := fun W hW => h.kids.below (by rw [← hN]; exact hW)
  rw [← hN] at H1 HSK HSG ⊢
  have HKK := hide hkk
  clear hN h hok hle hkey hkk hlf
  rw [Nv.v_eq] at H1
  rw [Nv.v_eq n a]
  rw [hc] at H1
  clear hc
  obtain ⟨ca, cc, xk, xkc, xg, xgc⟩ := a
  generalize n.turn i key = m at *
  generalize n.cells.length = cn at *
  generalize n.keys.length = kn0 at *
  generalize n.kids.length = gn0 at *
  generalize n.leaf = lf at *
  have hi0 : ¬ (i : Int) < 0 := by omega
  have hi1 : ¬ (kn0 : Int) ≤ (i : Int) := by omega
  have hi2 : ¬ kn0 ≤ i := by omega
  go_enter Try.func54, Try.ntmps54
  go_wp2_with (first
    | ((with_reducible refine wpList_box_node (by rfl) (.tmp 0) (by rfl) (some 3) (by rfl) N (unhide HN) lf ca cn cc xk kn0 xkc xg gn0 xgc (by with_unfolding_all rfl) ?_); intro W0 HX0 HB0 HS0; simp only [Act.put, List.setIfInBounds_toArray, List.set_cons_zero, List.set_cons_succ])
    | ((with_reducible refine wpList_alloc_node (by rfl) (by rfl) (some 6) (by rfl) (N + 1) (unhide HS0).symm ?_); intro W1 HX1 HB1 HS1; simp only [Act.put, List.setIfInBounds_toArray, List.set_cons_zero, List.set_cons_succ]; have HX2 := hide (((unhide HB1).block N (Nat.lt_succ_self N)).trans (unhide HX0)); obtain ⟨y0, y1, y2, y3⟩ := box4 (unhide HX2))
    | fail)
  have HG1 : Hid (Gs u W1 N (.cells #[.bool lf, .slice ca cn cc, .slice xk kn0 xkc, .slice xg gn0 xgc] 26 (0, 0)) (.cells #[.bool false, .slice none 0 0, .slice none 0 0, .slice none 0 0] 26 (0, 0))) := ⟨⟨(unhide HB0).trans ((unhide HB1).mono (Nat.le_succ N)), unhide HX2⟩, unhide HX1⟩
  clear HX0 HB0 HS0 HB1 HS1 HX1 HX2
  refine (unhide H1 _ (unhide HG1).1.1).mono ?_
  rintro e W3 ⟨rfl, hb3⟩
  have HG3 := hide ((unhide HG1).below hb3)
  clear hb3 y0 y1 y2 y3 HG1 H1
  obtain ⟨y0, y1, y2, y3⟩ := box4 (unhide HG3).1.2
  go_wp2_with fail
  refine (unhide H2 _).mono ?_
  rintro e W4 ⟨rfl, hw4⟩
  obtain rfl := hw4.symm
  clear hw4 H2
  obtain ⟨BX, hBX⟩ : ∃ B : Obj, B = (.cells #[.bool lf, .slice ca cn cc, .slice xk kn0 xkc, .slice xg gn0 xgc] 26 (0, 0)) := ⟨_, rfl⟩
  have HBX := hide hBX
  clear hBX
  have HLW := hide (unhide HLG _ (unhide HG3).1.1)
  rw [unhide HKM] at HLW
  have HGA := hide ((unhide HG3).below (w' := W3.alloc (.cells #[] 50)) ((Below.refl _ _).alloc (Nat.le_refl _) _))
  obtain ⟨v0, v1, v2, v3⟩ := box4 (unhide HGA).1.2
  go_upto_region 7 with (first
    | (at_builtin; refine wpList_allG (by rfl) (.tmp 32) (.tmp 34) (by rfl) (some 35) (by rfl) (N + 2) (unhide HG3).sz m.kids gn0 (unhide HGL) xg xgc (unhide HLW) (unhide HG0).1 (unhide HG0).2 (by rfl) (by rfl) ?_; intro xo cp w2 HO2 HB2; simp only [Act.put, List.setIfInBounds_toArray, List.set_cons_zero, List.set_cons_succ])
    | ((with_reducible refine wpList_alloc_node (by rfl) (by rfl) (some 9) (by rfl) w2.heap.size rfl ?_); intro W5 HX5 HB5 HS5; simp only [Act.put, List.setIfInBounds_toArray, List.set_cons_zero, List.set_cons_succ])
    | ((with_reducible refine wpList_store_node (by rfl) (.tmp 9) (.tmp 36) (by rfl) w2.heap.size false none 0 0 none 0 0 xo gn0 cp (by with_unfolding_all rfl) (by with_unfolding_all rfl) (unhide HX5) ?_); intro W6 HX6 HE6; simp only [Act.put])
    | fail)
  obtain ⟨M, hM⟩ : ∃ M, M = w2.heap.size := ⟨_, rfl⟩
  have HG5 : Hid (Gn u W6 N M BX [] m.kids none 0 0 xo gn0 cp) := by
    have h1 := (unhide HG3).below (unhide HB2)
    have hb6 : Below w2.heap.size w2 W6 := by rw [unhide HE6]; exact belowRow (unhide HB5) (Nat.le_refl _) _
    have h2 := h1.below hb6
    refine ⟨h2.1.1, by rw [unhide HBX]; exact h2.1.2, h2.2, by rw [hM]; exact unhide HX6, rfl, unhide HGL, World.ownsRow_nil _ _ _ _, own_keep (unhide HO2) fun g hg => hb6.block g ((unhide HO2).lt g hg).2, by rw [hM]; exact h1.sz⟩
  rw [← hM]
  clear HX5 HB5 HS5 HX6 HE6 hM
  have HWHO := hide (fun (w : World) (ks : List ByteArray) (gs : List Nat) (ka : Option Addr) (kn kc : Nat) (ga : Option Addr) (gn gc : Nat) (he : ks = m.keys ∧ gs = m.kids) (hg : Gn u w N M BX ks gs ka kn kc ga gn gc) => unhide HWH0 w kn gn (by rw [hg.ek, he.1]) (by rw [hg.eg, he.2]) ka kc ga gc (by
    have h1 := hg.at (by rw [he.2]; exact (unhide HKD).1) ⟨by rw [hg.ek, he.1]; exact (unhide HKD).2.1, by rw [hg.eg, he.2]; exact (unhide HKD).2.2⟩
    rw [he.1, he.2] at h1
    have h2 : m = ⟨false, [], m.keys, m.kids⟩ := by
      obtain ⟨l, c, k, g⟩ := m
      obtain ⟨e1, e2⟩ := unhide HFC
      simp only at e1 e2
      rw [e1, e2]
    rw [h2]; exact h1))
  clear HGA v0 v1 v2 v3 HG3 y0 y1 y2 y3 HWH0 HKD HO2 HB2 HLW HLG HGL HKM
  go_wp2_with fail
  go_loopw [10] (fun s8 wr => ∃ (k : Nat) (ks : List ByteArray) (ka : Option Addr) (kn kc : Nat), s8 = .int .i64 (k : Int) ∧ k ≤ kn0 ∧ Hid (ks = m.keys.take k) ∧ Hid (kn ≤ k) ∧ Hid (Gn u wr N M BX ks m.kids ka kn kc xo gn0 cp)) (fun s8 _ => kn0 - (intOf s8).toNat)
  case atStart => exact ⟨0, [], none, 0, 0, rfl, Nat.zero_le _, rfl, hide (Nat.le_refl _), unhide HG5⟩
  case round =>
    clear HG5
    obtain ⟨k, ks, ka, kn, kc, rfl, hk, HL, HBD, HG⟩ := hrel
    have hb4 := (unhide HG).box
    rw [unhide HBX] at hb4
    obtain ⟨y0, y1, y2, y3⟩ := box4 hb4
    obtain ⟨z0, z1, z2, z3⟩ := box4 (unhide HG).made
    clear hb4
    by_cases hlt : k < kn0
    · have hki : (k : Int) < (kn0 : Int) := by omega
      have HBK : Hid (kn ≤ 2000000) := by have := unhide HBD; show kn ≤ _; omega
      by_cases hki2 : k = i
      · have hkb1 : ((k : Int) == (i : Int)) = true := by rw [beq_iff_eq]; omega
        have hkb2 : (k : Int) = (i : Int) := by omega
        have HNX : Hid (ks ++ [key] = m.keys.take (k + 1)) := by rw [unhide HTK k key (by rw [hki2]; exact unhide HMI), unhide HL]; exact rfl
        go_upto_region 9 with (first
          | (at_builtin; refine (unhide HG).wpK (by rfl) (.tmp 48) (.tmp 50) (by rfl) (some 51) (by rfl) key (by rfl) (by rfl) (unhide HBK) ?_; intro ao2 k22 cp2 w2 HK22 HMD HG2; simp only [Act.put, List.setIfInBounds_toArray, List.set_cons_zero, List.set_cons_succ]; clear z0 z1 z2 z3; obtain ⟨z0, z1, z2, z3⟩ := box4 (unhide HMD).2; have zf := row_free (unhide HMD).2 2)
          | fail)
        generalize World.setCell w2 _ _ = X6 at HG2 ⊢
        replace HG := HG2
        clear HMD HG2 z0 z1 z2 z3 zf y0 y1 y2 y3
        go_wp2_with fail
        go_roundw
        case rel => exact ⟨k + 1, ks ++ [key], ao2, k22, cp2, by go_num, hlt, unhide HNX, hide (by have h1 := unhide HBD; have h2 := unhide HK22; omega), unhide HG⟩
        case measure => simp [intOf]; omega
      · have hkb1 : ((k : Int) == (i : Int)) = false := by rw [beq_eq_false_iff_ne]; omega
        have hkb2 : ¬ (k : Int) = (i : Int) := by omega
        obtain ⟨q, sg, so, hq, hix, hsc⟩ := unhide HSK k hlt
        have HSC := hide hsc
        have HNX : Hid (ks ++ [q] = m.keys.take (k + 1)) := by rw [unhide HTK k q (unhide HMK k q hki2 hq), unhide HL]; exact rfl
        clear hsc hq z0 z1 z2 z3
        go_wp2_with fail
        refine wp_region_last (fun W => (Below N u W ∧ W.heap[N]? = some BX) ∧ W.heap[M]? = some (.cells #[.bool false, .slice none 0 0, .slice ka kn kc, .slice xo gn0 cp] 26 (0, 0))) 10 hmix ⟨⟨belowDrewN (unhide HG).bel 1, (unhide HG).box⟩, (unhide HG).made⟩ fun hS => ?_
        replace HG := hide ((unhide HG).drewN 1)
        generalize hXX : World.drewN _ 1 = X0 at HG
        have hXY : World.drew _ = X0 := hXX
        rw [hXY] at hS ⊢
        clear hXX hXY
        refine wpAnyL_take 0 53 (.pointer (some ⟨M, 2, none⟩)) [] rfl rfl (by kernel_rfl) (by kernel_rfl) (by kernel_rfl) (by kernel_rfl) (by kernel_rfl) (fun _ _ _ h => h) (by rfl) (fun u _ => by go_simp) hS ?_
        simp only [Act.put, List.setIfInBounds_toArray, List.set_cons_zero, List.set_cons_succ]
        refine wpAnyL_take 1 54 (.slice ka kn kc) [] rfl rfl (by kernel_rfl) (by kernel_rfl) (by kernel_rfl) (by kernel_rfl) (by kernel_rfl) (fun _ _ _ h => h) (by rfl) (fun W hW => by obtain ⟨b0, b1, b2, b3⟩ := box4 hW.2; go_simp) hS ?_
        simp only [Act.put, List.setIfInBounds_toArray, List.set_cons_zero, List.set_cons_succ]
        refine wpAnyL_take 2 55 (.pointer (some ⟨N, 2, none⟩)) [] rfl rfl (by kernel_rfl) (by kernel_rfl) (by kernel_rfl) (by kernel_rfl) (by kernel_rfl) (fun _ _ _ h => h) (by rfl) (fun u _ => by go_simp) hS ?_
        simp only [Act.put, List.setIfInBounds_toArray, List.set_cons_zero, List.set_cons_succ]
        refine wpAnyL_take 3 56 (.slice xk kn0 xkc) [] rfl rfl (by kernel_rfl) (by kernel_rfl) (by kernel_rfl) (by kernel_rfl) (by kernel_rfl) (fun _ _ _ h => h) (by rfl) (fun W hW => by rw [unhide HBX] at hW; obtain ⟨b0, b1, b2, b3⟩ := box4 hW.1.2; go_simp) hS ?_
        simp only [Act.put, List.setIfInBounds_toArray, List.set_cons_zero, List.set_cons_succ]
        refine wpAnyL_take 4 57 (.int .i64 (k : Int)) [] rfl rfl (by kernel_rfl) (by kernel_rfl) (by kernel_rfl) (by kernel_rfl) (by kernel_rfl) (fun _ _ _ h => h) (by rfl) (fun u _ => by go_simp) hS ?_
        simp only [Act.put, List.setIfInBounds_toArray, List.set_cons_zero, List.set_cons_succ]
        refine wpAnyL_take 5 58 (.pointer (some ⟨sg, so, none⟩)) [] rfl rfl (by kernel_rfl) (by kernel_rfl) (by kernel_rfl) (by kernel_rfl) (by kernel_rfl) (fun _ _ _ h => h) (by rfl) (fun u _ => by go_simp) hS ?_
        simp only [Act.put, List.setIfInBounds_toArray, List.set_cons_zero, List.set_cons_succ]
        refine wpAnyL_take 6 59 (.string q) [] rfl rfl (by kernel_rfl) (by kernel_rfl) (by kernel_rfl) (by kernel_rfl) (by kernel_rfl) (fun _ _ _ h => h) (by rfl) (fun W hW => by have e1 := unhide HSC W hW.1.1; go_simp) hS ?_
        simp only [Act.put, List.setIfInBounds_toArray, List.set_cons_zero, List.set_cons_succ]
        refine wpAnyL_one (i := 7) (by kernel_rfl) rfl (by rfl) fun K hK => ?_
        refine wp_buildTo (by rfl) _ _ (by simp only [List.map_toArray, List.map_cons, List.map_nil]; exact bsK X0 _) (some 60) (by rfl) ?_
        have HX1 := hide ((unhide HG).below ((Below.refl _ _).alloc (Nat.le_refl _) (.cells #[.string q] 9)))
        refine hK _ _ (fun _ => ⟨⟨(unhide HX1).bel, (unhide HX1).box⟩, (unhide HX1).made⟩) ?_
        clear hK K HX1
        simp only [Act.put, List.setIfInBounds_toArray, List.set_cons_zero, List.set_cons_succ]
        refine wpAnyL_one (i := 8) (by kernel_rfl) rfl (by rfl) fun K hK => ?_
        refine (unhide HG).opK (.tmp 54) (.tmp 60) (by rfl) (some 61) (by rfl) q (by rfl) (by rfl) (unhide HBK) ?_
        intro ao2 k22 cp2 w2 HK22 HMD HG2
        refine hK _ _ (fun _ => unhide HMD) ?_
        clear hK K
        simp only [Act.put, List.setIfInBounds_toArray, List.set_cons_zero, List.set_cons_succ]
        refine wpAnyL_one (i := 9) (by kernel_rfl) rfl (by rfl) fun K hK => ?_
        refine wp_val (.pointer (some ⟨M, 2, none⟩)) (by go_simp) (some 62) (by rfl) ?_
        refine hK _ _ (fun _ => unhide HMD) ?_
        clear hK K
        simp only [Act.put, List.setIfInBounds_toArray, List.set_cons_zero, List.set_cons_succ]
        refine wpAnyL_one (i := 10) (by kernel_rfl) rfl (by rfl) fun K hK => ?_
        refine wp_store_val 23 (.tmp 62) (.tmp 61) (by rfl) (by rfl) M 2 ao2 k22 cp2 (by rfl) (by rfl) (made_there (unhide HMD).2 (by simp)) (by kernel_rfl) ?_
        refine hK _ _ (fun h => absurd rfl h) ?_
        clear hK K
        refine wpAnyL_done (by kernel_rfl) ?_ _
        generalize World.setCell w2 _ _ = X5 at HG2 ⊢
        replace HG := HG2
        clear HMD HG2 hS
        go_wp2
        go_roundw
        case rel => exact ⟨k + 1, ks ++ [q], ao2, k22, cp2, by go_num, hlt, unhide HNX, hide (by have h1 := unhide HBD; have h2 := unhide HK22; omega), unhide HG⟩
        case measure => simp [intOf]; omega
    · have hE : kn0 = k := by omega
      subst hE
      have hki : ¬ (kn0 : Int) < (kn0 : Int) := by omega
      have HEK : Hid (ks = m.keys ∧ m.kids = m.kids) := ⟨by rw [unhide HL]; exact unhide HML, rfl⟩
      clear z0 z1 z2 z3
      have HFN := hide (fun (W' : World) (hb : Below wr.heap.size wr W') (cs : Array Value) => ((unhide HG).below hb).fin cs)
      have HRS := hide (fun (W' : World) (hb : Below wr.heap.size wr W') => ((unhide HG).below hb).res)
      have HWH := hide (unhide HWHO wr ks m.kids ka kn kc xo gn0 cp (unhide HEK) (unhide HG))
      obtain ⟨z0, z1, z2, z3⟩ := box4 (unhide HG).made
      go_wp2_with fail
      refine (unhide HWH).mono ?_
      rintro e W6 ⟨_, rfl, ko, kq, kp, go, gq, gp, E, rfl, hE, hbe⟩
      have HE := hide hE
      have HRES := hide (unhide HRS _ hbe)
      have HFN2 := hide (unhide HFN _ hbe)
      clear hE hbe z0 z1 z2 z3 y0 y1 y2 y3
      go_wp2_with (first
        | ((with_reducible refine wpList_store_node (by rfl) (.tmp 6) (.tmp 65) (by rfl) (N + 1) false none 0 0 ko kq kp go gq gp (by with_unfolding_all rfl) (by with_unfolding_all rfl) (unhide HRES) ?_); intro W9 HX9 HE9; simp only [Act.put])
        | fail)
      have HZ : Hid (Ow W9 N [] ks m.kids ⟨none, 0, ka, kc, xo, cp⟩ ∧ Below N u W9) := by rw [unhide HE9]; exact unhide HFN2 _
      refine bodyPost_ret (results_cell_tmp rfl _ _ (N + 1) 26 #[.bool false, .slice none 0 0, .slice ko kq kp, .slice go gq gp] (0, 0) _ rfl (unhide HX9) nodeUnd rfl nodeInfo) rfl ?_
      refine ⟨_, E, rfl, ?_, (unhide HZ).2⟩
      obtain ⟨e1, e2⟩ := unhide HEK
      have e3 := (unhide HG).ek
      have e4 := (unhide HG).eg
      rcases unhide HE with ⟨h0, d1, d2, d3, d4, d5, d6, d7⟩ | ⟨h0, rfl, rfl, rfl, rfl, rfl, rfl, rfl⟩
      · refine .inl ⟨h0, d1, ⟨none, 0, ka, kc, xo, cp⟩, ?_, ?_⟩
        · rw [d2, d3, d4, d5, d6, d7, Nv.v_eq, (unhide HFC).1, (unhide HFC).2, ← e1, ← e3, ← e4]; rfl
        · rw [(unhide HFC).2, ← e1]; exact (unhide HZ).1
      · exact .inr ⟨h0, rfl, rfl⟩
end
section
open Go.RowKit
def emptyNd : Nd := ⟨false, [], [], []⟩
open Classical in
/-- what is answered: refused, a bad argument, or what was checked -/
noncomputable def bR (rf : Int) (bad : Prop) (ck : Int) (m : Nd) : Nd := if rf = 0 ∧ ¬ bad ∧ ck = 0 then m else emptyNd
open Classical in
noncomputable def bE (rf : Int) (bad : Prop) (ck : Int) : Int := if rf ≠ 0 then rf else if bad then 1 else ck
theorem brF {F : FuncId} {args : Array Value} {u : World} (rf : Int) (bad : Prop) (ck : Int) (m : Nd)
    (hno : rf ≠ 0 → Calls Try.prog F args u fun e u' => e = .returned (.tuple #[zeroV, .int .i64 rf]) ∧ Below u.heap.size u u')
    (hbd : rf = 0 → bad → Calls Try.prog F args u fun e u' => e = .returned (.tuple #[zeroV, .int .i64 1]) ∧ Below u.heap.size u u')
    (hgo : rf = 0 → ¬ bad → Calls Try.prog F args u fun e u' => ∃ V E, e = .returned (.tuple #[V, .int .i64 E]) ∧ ((ck = 0 ∧ E = 0 ∧ ∃ b : Nv, V = b.v m ∧ Ow u' u.heap.size m.cells m.keys m.kids b) ∨ (ck ≠ 0 ∧ E = ck ∧ V = zeroV)) ∧ Below u.heap.size u u') :
    Calls Try.prog F args u fun e u' => ∃ y : Nv, e = .returned (.tuple #[y.v (bR rf bad ck m), .int .i64 (bE rf bad ck)]) ∧ Ow u' u.heap.size (bR rf bad ck m).cells (bR rf bad ck m).keys (bR rf bad ck m).kids y ∧ Below u.heap.size u u' := by
  by_cases h1 : rf = 0
  · by_cases h2 : bad
    · have e1 : bR rf bad ck m = emptyNd := by unfold bR; rw [if_neg (fun h => h.2.1 h2)]
      have e2 : bE rf bad ck = 1 := by unfold bE; rw [if_neg (fun h => h h1), if_pos h2]
      rw [e1, e2]
      refine (hbd h1 h2).mono ?_
      rintro e u' ⟨rfl, hb⟩
      exact ⟨⟨none, 0, none, 0, none, 0⟩, rfl, zero_ow _ _, hb⟩
    · refine (hgo h1 h2).mono ?_
      rintro e u' ⟨V, E, rfl, ⟨h3, rfl, b, rfl, ho⟩ | ⟨h3, rfl, rfl⟩, hb⟩
      · have e1 : bR rf bad ck m = m := by unfold bR; rw [if_pos ⟨h1, h2, h3⟩]
        have e2 : bE rf bad ck = 0 := by unfold bE; rw [if_neg (fun h => h h1), if_neg h2, h3]
        rw [e1, e2]
        exact ⟨b, rfl, ho, hb⟩
      · have e1 : bR rf bad E m = emptyNd := by unfold bR; rw [if_neg (fun h => h3 h.2.2)]
        have e2 : bE rf bad E = E := by unfold bE; rw [if_neg (fun h => h h1), if_neg h2]
        rw [e1, e2]
        exact ⟨⟨none, 0, none, 0, none, 0⟩, rfl, zero_ow _ _, hb⟩
  · have e1 : bR rf bad ck m = emptyNd := by unfold bR; rw [if_neg (fun h => h1 h.1)]
    have e2 : bE rf bad ck = rf := by unfold bE; rw [if_pos h1]
    rw [e1, e2]
    refine (hno h1).mono ?_
    rintro e u' ⟨rfl, hb⟩
    exact ⟨⟨none, 0, none, 0, none, 0⟩, rfl, zero_ow _ _, hb⟩
theorem empty_fine : emptyNd.Fine := ⟨⟨Nat.zero_le _, Nat.zero_le _, Nat.zero_le _⟩, fun k hk => (by cases hk), fun c hc => (by cases hc)⟩
theorem bR_fine {rf : Int} {bad : Prop} {ck : Int} {m : Nd} (h : rf = 0 → ¬ bad → m.Fine) : (bR rf bad ck m).Fine := by
  unfold bR
  split
  · rename_i hx; exact h hx.1 hx.2.1
  · exact empty_fine
def Nd.grBad (n : Nd) (i : Int) (key : ByteArray) (kid : Nat) : Prop := i < 0 ∨ (n.kids.length : Int) ≤ i ∨ ¬ keyOk key ∨ kid = 0
def Nd.shBad (n : Nd) (i : Int) : Prop := i < 0 ∨ (n.keys.length : Int) ≤ i
def Nd.tuBad (n : Nd) (i : Int) (key : ByteArray) : Prop := i < 0 ∨ (n.keys.length : Int) ≤ i ∨ ¬ keyOk key
noncomputable def Nd.grR (n : Nd) (i : Int) (key : ByteArray) (kid : Nat) : Nd := bR (n.refused false) (n.grBad i key kid) (n.grow i.toNat key kid).check (n.grow i.toNat key kid)
noncomputable def Nd.grE (n : Nd) (i : Int) (key : ByteArray) (kid : Nat) : Int := bE (n.refused false) (n.grBad i key kid) (n.grow i.toNat key kid).check
noncomputable def Nd.shR (n : Nd) (i : Int) : Nd := bR (n.refused false) (n.shBad i) 0 (n.shrink i.toNat)
noncomputable def Nd.shE (n : Nd) (i : Int) : Int := bE (n.refused false) (n.shBad i) 0
noncomputable def Nd.tuR (n : Nd) (i : Int) (key : ByteArray) : Nd := bR (n.refused false) (n.tuBad i key) (n.turn i.toNat key).check (n.turn i.toNat key)
noncomputable def Nd.tuE (n : Nd) (i : Int) (key : ByteArray) : Int := bE (n.refused false) (n.tuBad i key) (n.turn i.toNat key).check
theorem branch_lens {n : Nd} (hc : n.refused false = 0) : n.keys.length ≤ 1992 ∧ n.kids.length ≤ 1993 ∧ n.kids.length = n.keys.length + 1 := by
  have hok := (Nd.refused_zero.1 hc).1
  have hlf := (Nd.refused_zero.1 hc).2
  have hk := hok.kind
  unfold Nd.Kind at hk
  rw [if_neg (by rw [hlf]; decide)] at hk
  exact ⟨hok.lens.2.1, hok.lens.2.2, hk.2.2⟩
theorem few_sum {n : Nd} (h : n.Few) : n.Kind → n.cells.length + n.keys.length ≤ 8796093022208 := h.sum
theorem nat_of {i : Int} (h : ¬ i < 0) : ∃ j : Nat, i = (j : Int) := ⟨i.toNat, by omega⟩
theorem shrink_fine {n : Nd} {x : Nv} {v : World} (h : NdAt v n x) (i : Int) : (n.shR i).Fine := by
  refine bR_fine fun hc hb => ⟨⟨Nat.zero_le _, ?_, ?_⟩, fun k hk => ?_, fun c hc => (by cases hc)⟩
  · have := branch_lens hc
    simp only [Nd.shrink, List.length_append, List.length_take, List.length_drop]; omega
  · have := branch_lens hc
    simp only [Nd.shrink, List.length_append, List.length_take, List.length_drop]; omega
  · rcases List.mem_append.1 hk with hk | hk
    · exact h.kid k (List.mem_of_mem_take hk)
    · exact h.kid k (List.mem_of_mem_drop hk)
theorem grow_fine {n : Nd} {x : Nv} {v : World} (h : NdAt v n x) (i : Int) (key : ByteArray) (kid : Nat) (hkl : kid < 4294967296) : (n.grR i key kid).Fine := by
  refine bR_fine fun hc hb => ⟨⟨Nat.zero_le _, ?_, ?_⟩, fun k hk => ?_, fun c hc => (by cases hc)⟩
  · have := branch_lens hc
    simp only [Nd.grow, List.length_append, List.length_take, List.length_drop, List.length_cons]; omega
  · have := branch_lens hc
    simp only [Nd.grow, List.length_append, List.length_take, List.length_drop, List.length_cons]; omega
  · rcases List.mem_append.1 hk with hk | hk
    · exact h.kid k (List.mem_of_mem_take hk)
    · rcases List.mem_cons.1 hk with rfl | hk
      · exact hkl
      · exact h.kid k (List.mem_of_mem_drop hk)
theorem turn_fine {n : Nd} {x : Nv} {v : World} (h : NdAt v n x) (i : Int) (key : ByteArray) : (n.tuR i key).Fine := by
  refine bR_fine fun hc hb => ⟨⟨Nat.zero_le _, ?_, ?_⟩, h.kid, fun c hc => (by cases hc)⟩
  · have := branch_lens hc
    simp only [Nd.turn, List.length_append, List.length_take, List.length_drop, List.length_cons]; omega
  · have := branch_lens hc
    show n.kids.length ≤ _; omega
theorem nGrowF (n : Nd) (a : Nv) (i : Int) (key : ByteArray) (kid : Nat) (u : World) (h : NdAt u n a) (_ : n.Few) (hkl : kid < 4294967296) : Calls Try.prog 44 #[a.v n, .int .i64 i, .string key, .int .u32 (kid : Int)] u fun e u' => ∃ y : Nv, e = .returned (.tuple #[y.v (n.grR i key kid), .int .i64 (n.grE i key kid)]) ∧ Ow u' u.heap.size (n.grR i key kid).cells (n.grR i key kid).keys (n.grR i key kid).kids y ∧ Below u.heap.size u u' := by
  refine brF _ _ _ _ (fun h1 => nGrowNo n a i key kid u h h1) (fun h1 h2 => nGrowBd n a i key kid u h h1 h2) (fun h1 h2 => ?_)
  have q1 : ¬ i < 0 := fun q => h2 (.inl q)
  have q2 : ¬ (n.kids.length : Int) ≤ i := fun q => h2 (.inr (.inl q))
  have q3 : keyOk key := Classical.byContradiction fun q => h2 (.inr (.inr (.inl q)))
  have q4 : kid ≠ 0 := fun q => h2 (.inr (.inr (.inr q)))
  obtain ⟨j, rfl⟩ := nat_of q1
  rw [Int.toNat_natCast]
  exact nGrowO n a j key kid u h h1 (by omega) q3 q4 hkl
theorem rGrowF (n : Nd) (a : Nv) (i : Int) (key : ByteArray) (kid : Nat) (u : World) (h : NdAt u n a) (hf : n.Few) (hkl : kid < 4294967296) : Calls Try.prog 46 #[a.v n, .int .i64 i, .string key, .int .u32 (kid : Int)] u fun e u' => ∃ y : Nv, e = .returned (.tuple #[y.v (n.grR i key kid), .int .i64 (n.grE i key kid)]) ∧ Ow u' u.heap.size (n.grR i key kid).cells (n.grR i key kid).keys (n.grR i key kid).kids y ∧ Below u.heap.size u u' := by
  refine brF _ _ _ _ (fun h1 => rGrowNo n a i key kid u h (few_sum hf) h1) (fun h1 h2 => rGrowBd n a i key kid u h (few_sum hf) h1 h2) (fun h1 h2 => ?_)
  have q1 : ¬ i < 0 := fun q => h2 (.inl q)
  have q2 : ¬ (n.kids.length : Int) ≤ i := fun q => h2 (.inr (.inl q))
  have q3 : keyOk key := Classical.byContradiction fun q => h2 (.inr (.inr (.inl q)))
  have q4 : kid ≠ 0 := fun q => h2 (.inr (.inr (.inr q)))
  obtain ⟨j, rfl⟩ := nat_of q1
  rw [Int.toNat_natCast]
  exact rGrowGo n a j key kid u h h1 (by omega) q3 q4 hkl
theorem nShrinkF (n : Nd) (a : Nv) (i : Int) (u : World) (h : NdAt u n a) (_ : n.Few) : Calls Try.prog 48 #[a.v n, .int .i64 i] u fun e u' => ∃ y : Nv, e = .returned (.tuple #[y.v (n.shR i), .int .i64 (n.shE i)]) ∧ Ow u' u.heap.size (n.shR i).cells (n.shR i).keys (n.shR i).kids y ∧ Below u.heap.size u u' := by
  refine brF _ _ _ _ (fun h1 => nShrinkNo n a i u h h1) (fun h1 h2 => nShrinkBd n a i u h h1 h2) (fun h1 h2 => ?_)
  have q1 : ¬ i < 0 := fun q => h2 (.inl q)
  have q2 : ¬ (n.keys.length : Int) ≤ i := fun q => h2 (.inr q)
  obtain ⟨j, rfl⟩ := nat_of q1
  rw [Int.toNat_natCast]
  refine (nShrinkO n a j u h h1 (by omega)).mono ?_
  rintro e u' ⟨y, rfl, ho, hb⟩
  exact ⟨_, 0, rfl, .inl ⟨rfl, rfl, y, rfl, ho⟩, hb⟩
theorem rShrinkF (n : Nd) (a : Nv) (i : Int) (u : World) (h : NdAt u n a) (hf : n.Few) : Calls Try.prog 50 #[a.v n, .int .i64 i] u fun e u' => ∃ y : Nv, e = .returned (.tuple #[y.v (n.shR i), .int .i64 (n.shE i)]) ∧ Ow u' u.heap.size (n.shR i).cells (n.shR i).keys (n.shR i).kids y ∧ Below u.heap.size u u' := by
  refine brF _ _ _ _ (fun h1 => rShrinkNo n a i u h (few_sum hf) h1) (fun h1 h2 => rShrinkBd n a i u h (few_sum hf) h1 h2) (fun h1 h2 => ?_)
  have q1 : ¬ i < 0 := fun q => h2 (.inl q)
  have q2 : ¬ (n.keys.length : Int) ≤ i := fun q => h2 (.inr q)
  obtain ⟨j, rfl⟩ := nat_of q1
  rw [Int.toNat_natCast]
  refine (rShrinkGo n a j u h h1 (by omega)).mono ?_
  rintro e u' ⟨y, rfl, ho, hb⟩
  exact ⟨_, 0, rfl, .inl ⟨rfl, rfl, y, rfl, ho⟩, hb⟩
theorem nTurnF (n : Nd) (a : Nv) (i : Int) (key : ByteArray) (u : World) (h : NdAt u n a) (_ : n.Few) : Calls Try.prog 52 #[a.v n, .int .i64 i, .string key] u fun e u' => ∃ y : Nv, e = .returned (.tuple #[y.v (n.tuR i key), .int .i64 (n.tuE i key)]) ∧ Ow u' u.heap.size (n.tuR i key).cells (n.tuR i key).keys (n.tuR i key).kids y ∧ Below u.heap.size u u' := by
  refine brF _ _ _ _ (fun h1 => nTurnNo n a i key u h h1) (fun h1 h2 => nTurnBd n a i key u h h1 h2) (fun h1 h2 => ?_)
  have q1 : ¬ i < 0 := fun q => h2 (.inl q)
  have q2 : ¬ (n.keys.length : Int) ≤ i := fun q => h2 (.inr (.inl q))
  have q3 : keyOk key := Classical.byContradiction fun q => h2 (.inr (.inr q))
  obtain ⟨j, rfl⟩ := nat_of q1
  rw [Int.toNat_natCast]
  exact nTurnO n a j key u h h1 (by omega) q3
theorem rTurnF (n : Nd) (a : Nv) (i : Int) (key : ByteArray) (u : World) (h : NdAt u n a) (hf : n.Few) : Calls Try.prog 54 #[a.v n, .int .i64 i, .string key] u fun e u' => ∃ y : Nv, e = .returned (.tuple #[y.v (n.tuR i key), .int .i64 (n.tuE i key)]) ∧ Ow u' u.heap.size (n.tuR i key).cells (n.tuR i key).keys (n.tuR i key).kids y ∧ Below u.heap.size u u' := by
  refine brF _ _ _ _ (fun h1 => rTurnNo n a i key u h (few_sum hf) h1) (fun h1 h2 => rTurnBd n a i key u h (few_sum hf) h1 h2) (fun h1 h2 => ?_)
  have q1 : ¬ i < 0 := fun q => h2 (.inl q)
  have q2 : ¬ (n.keys.length : Int) ≤ i := fun q => h2 (.inr (.inl q))
  have q3 : keyOk key := Classical.byContradiction fun q => h2 (.inr (.inr q))
  obtain ⟨j, rfl⟩ := nat_of q1
  rw [Int.toNat_natCast]
  exact rTurnGo n a j key u h h1 (by omega) q3
set_option maxRecDepth 100000 in
set_option maxHeartbeats 4000000 in
theorem bGrow1 (n : Nd) (a : Nv) (i : Int) (key : ByteArray) (kid : Nat) (hkl : kid < 4294967296) (X Y Z : Nat) (u : World) (h : NdAt u n a) (hf : n.Few) (hX : u.cell? ⟨X, 0, none⟩ = some (.int .i64 i)) (hY : u.cell? ⟨Y, 0, none⟩ = some (.string key)) (hZ : u.cell? ⟨Z, 0, none⟩ = some (.int .u32 (kid : Int))) :
    Calls Try.prog 43 (#[a.v n] ++ #[.pointer (some ⟨X, 0, none⟩), .pointer (some ⟨Y, 0, none⟩), .pointer (some ⟨Z, 0, none⟩)]) u fun e u' => ∃ r, e = .returned r ∧ ∃ y : Nv, r = .tuple #[y.v (n.grR i key kid), .int .i64 (n.grE i key kid)] ∧ Ow u' u.heap.size (n.grR i key kid).cells (n.grR i key kid).keys (n.grR i key kid).kids y ∧ Below u.heap.size u u' := by
  have H1 := hide (fun (v : World) (hv : Below u.heap.size u v) => nGrowF n a i key kid v (h.below hv) hf hkl)
  have HX : Hid (∀ v : World, Below u.heap.size u v → v.cell? ⟨X, 0, none⟩ = some (.int .i64 i) ∧ v.cell? ⟨Y, 0, none⟩ = some (.string key) ∧ v.cell? ⟨Z, 0, none⟩ = some (.int .u32 (kid : Int))) := fun v hv => ⟨(hv.cell (World.block_lt_of_cell? u _ hX)).trans hX, (hv.cell (World.block_lt_of_cell? u _ hY)).trans hY, (hv.cell (World.block_lt_of_cell? u _ hZ)).trans hZ⟩
  clear h hf hX hY hZ hkl
  obtain ⟨N, hN⟩ : ∃ N, N = u.heap.size := ⟨_, rfl⟩
  have HN := hide hN
  rw [← hN] at H1 HX ⊢
  clear hN
  rw [Nv.v_eq] at H1 ⊢
  obtain ⟨ca, cc, ka, kc, ga, gc⟩ := a
  generalize n.grR i key kid = R at *
  generalize n.grE i key kid = E at *
  obtain ⟨rl, rcs, rks, rgs⟩ := R
  generalize n.cells.length = cn at *
  generalize n.keys.length = kn at *
  generalize n.kids.length = gn at *
  generalize n.leaf = lf at *
  have HVR : Hid (∀ x : Nv, x.v ⟨rl, rcs, rks, rgs⟩ = .agg #[.bool rl, .slice x.ca rcs.length x.cc, .slice x.ka rks.length x.kc, .slice x.ga rgs.length x.gc]) := fun x => rfl
  go_enter Try.func43, Try.ntmps43
  go_wp2_with (first
    | ((with_reducible refine wpList_box_node (by rfl) (.tmp 0) (by rfl) (some 4) (by rfl) N (unhide HN) lf ca cn cc ka kn kc ga gn gc (by with_unfolding_all rfl) ?_); intro W0 HX0 HB0 HS0; simp only [Act.put, List.setIfInBounds_toArray, List.set_cons_zero, List.set_cons_succ])
    | ((with_reducible refine wpList_alloc_node (by rfl) (by rfl) (some 5) (by rfl) (N + 1) (unhide HS0).symm ?_); intro W1 HX1 HB1 HS1; simp only [Act.put, List.setIfInBounds_toArray, List.set_cons_zero, List.set_cons_succ]; have HBL : Hid (Below N u W1) := (unhide HB0).trans ((unhide HB1).mono (Nat.le_succ _)); obtain ⟨y0, y1, y2, y3⟩ := box4 (((unhide HB1).block N (Nat.lt_succ_self _)).trans (unhide HX0)); obtain ⟨c0, c1, c2⟩ := unhide HX _ (unhide HBL))
    | fail)
  refine (unhide H1 _ (unhide HBL)).mono ?_
  rintro e W2 ⟨y, rfl, how, hb2⟩
  have HX2 := hide (box_below (unhide HX1) hb2)
  have HBL2 : Hid (Below N u W2) := (unhide HBL).trans (hb2.mono (by rw [unhide HS1]; omega))
  have HOW : Hid (Ow W2 N rcs rks rgs y) := ⟨own_down how.c (by rw [unhide HS1]; omega), own_down how.k (by rw [unhide HS1]; omega), own_down how.g (by rw [unhide HS1]; omega)⟩
  rw [unhide HVR]
  clear how hb2 y0 y1 y2 y3 c0 c1 c2 HX0 HB0 HS0 HB1 HS1 HX1 HBL
  generalize hrc : rcs.length = rc at *
  generalize hrk : rks.length = rk at *
  generalize hrg : rgs.length = rg at *
  have HRL := hide (And.intro hrc (And.intro hrk hrg))
  clear hrc hrk hrg
  go_wp2_with (first
    | ((with_reducible refine wpList_store_node (by rfl) (.tmp 5) (.tmp 12) (by rfl) (N + 1) rl y.ca rc y.cc y.ka rk y.kc y.ga rg y.gc (by with_unfolding_all rfl) (by with_unfolding_all rfl) (unhide HX2) ?_); intro W3 HX3 HE3; simp only [Act.put])
    | fail)
  have HZ : Hid (Below N u W3 ∧ Ow W3 N rcs rks rgs y) := by
    rw [unhide HE3]
    refine ⟨belowRow (unhide HBL2) (Nat.le_succ N) _, own_keep (unhide HOW).c (fun g hg => heapRow_other _ _ _ _ ?_), own_keep (unhide HOW).k (fun g hg => heapRow_other _ _ _ _ ?_), own_keep (unhide HOW).g (fun g hg => heapRow_other _ _ _ _ ?_)⟩
    · exact not_node (unhide HOW).c (by decide) (unhide HX2) g hg
    · exact not_node (unhide HOW).k (by decide) (unhide HX2) g hg
    · exact not_node (unhide HOW).g (by decide) (unhide HX2) g hg
  go_wp2
  refine bodyPost_ret (results_cell_tmp rfl _ _ (N + 1) 26 #[.bool rl, .slice y.ca rc y.cc, .slice y.ka rk y.kc, .slice y.ga rg y.gc] (0, 0) _ rfl (unhide HX3) nodeUnd rfl nodeInfo) rfl ?_
  exact ⟨_, rfl, y, by first | (rw [unhide HVR]; done) | (rw [unhide HVR]; rfl), (unhide HZ).2, (unhide HZ).1⟩
set_option maxRecDepth 100000 in
set_option maxHeartbeats 4000000 in
theorem bGrow2 (n : Nd) (a : Nv) (i : Int) (key : ByteArray) (kid : Nat) (hkl : kid < 4294967296) (X Y Z : Nat) (u : World) (h : NdAt u n a) (hf : n.Few) (hX : u.cell? ⟨X, 0, none⟩ = some (.int .i64 i)) (hY : u.cell? ⟨Y, 0, none⟩ = some (.string key)) (hZ : u.cell? ⟨Z, 0, none⟩ = some (.int .u32 (kid : Int))) :
    Calls Try.prog 45 (#[a.v n] ++ #[.pointer (some ⟨X, 0, none⟩), .pointer (some ⟨Y, 0, none⟩), .pointer (some ⟨Z, 0, none⟩)]) u fun e u' => ∃ r, e = .returned r ∧ ∃ y : Nv, r = .tuple #[y.v (n.grR i key kid), .int .i64 (n.grE i key kid)] ∧ Ow u' u.heap.size (n.grR i key kid).cells (n.grR i key kid).keys (n.grR i key kid).kids y ∧ Below u.heap.size u u' := by
  have H1 := hide (fun (v : World) (hv : Below u.heap.size u v) => rGrowF n a i key kid v (h.below hv) hf hkl)
  have HX : Hid (∀ v : World, Below u.heap.size u v → v.cell? ⟨X, 0, none⟩ = some (.int .i64 i) ∧ v.cell? ⟨Y, 0, none⟩ = some (.string key) ∧ v.cell? ⟨Z, 0, none⟩ = some (.int .u32 (kid : Int))) := fun v hv => ⟨(hv.cell (World.block_lt_of_cell? u _ hX)).trans hX, (hv.cell (World.block_lt_of_cell? u _ hY)).trans hY, (hv.cell (World.block_lt_of_cell? u _ hZ)).trans hZ⟩
  clear h hf hX hY hZ hkl
  obtain ⟨N, hN⟩ : ∃ N, N = u.heap.size := ⟨_, rfl⟩
  have HN := hide hN
  rw [← hN] at H1 HX ⊢
  clear hN
  rw [Nv.v_eq] at H1 ⊢
  obtain ⟨ca, cc, ka, kc, ga, gc⟩ := a
  generalize n.grR i key kid = R at *
  generalize n.grE i key kid = E at *
  obtain ⟨rl, rcs, rks, rgs⟩ := R
  generalize n.cells.length = cn at *
  generalize n.keys.length = kn at *
  generalize n.kids.length = gn at *
  generalize n.leaf = lf at *
  have HVR : Hid (∀ x : Nv, x.v ⟨rl, rcs, rks, rgs⟩ = .agg #[.bool rl, .slice x.ca rcs.length x.cc, .slice x.ka rks.length x.kc, .slice x.ga rgs.length x.gc]) := fun x => rfl
  go_enter Try.func45, Try.ntmps45
  go_wp2_with (first
    | ((with_reducible refine wpList_box_node (by rfl) (.tmp 0) (by rfl) (some 4) (by rfl) N (unhide HN) lf ca cn cc ka kn kc ga gn gc (by with_unfolding_all rfl) ?_); intro W0 HX0 HB0 HS0; simp only [Act.put, List.setIfInBounds_toArray, List.set_cons_zero, List.set_cons_succ])
    | ((with_reducible refine wpList_alloc_node (by rfl) (by rfl) (some 5) (by rfl) (N + 1) (unhide HS0).symm ?_); intro W1 HX1 HB1 HS1; simp only [Act.put, List.setIfInBounds_toArray, List.set_cons_zero, List.set_cons_succ]; have HBL : Hid (Below N u W1) := (unhide HB0).trans ((unhide HB1).mono (Nat.le_succ _)); obtain ⟨y0, y1, y2, y3⟩ := box4 (((unhide HB1).block N (Nat.lt_succ_self _)).trans (unhide HX0)); obtain ⟨c0, c1, c2⟩ := unhide HX _ (unhide HBL))
    | fail)
  refine (unhide H1 _ (unhide HBL)).mono ?_
  rintro e W2 ⟨y, rfl, how, hb2⟩
  have HX2 := hide (box_below (unhide HX1) hb2)
  have HBL2 : Hid (Below N u W2) := (unhide HBL).trans (hb2.mono (by rw [unhide HS1]; omega))
  have HOW : Hid (Ow W2 N rcs rks rgs y) := ⟨own_down how.c (by rw [unhide HS1]; omega), own_down how.k (by rw [unhide HS1]; omega), own_down how.g (by rw [unhide HS1]; omega)⟩
  rw [unhide HVR]
  clear how hb2 y0 y1 y2 y3 c0 c1 c2 HX0 HB0 HS0 HB1 HS1 HX1 HBL
  generalize hrc : rcs.length = rc at *
  generalize hrk : rks.length = rk at *
  generalize hrg : rgs.length = rg at *
  have HRL := hide (And.intro hrc (And.intro hrk hrg))
  clear hrc hrk hrg
  go_wp2_with (first
    | ((with_reducible refine wpList_store_node (by rfl) (.tmp 5) (.tmp 12) (by rfl) (N + 1) rl y.ca rc y.cc y.ka rk y.kc y.ga rg y.gc (by with_unfolding_all rfl) (by with_unfolding_all rfl) (unhide HX2) ?_); intro W3 HX3 HE3; simp only [Act.put])
    | fail)
  have HZ : Hid (Below N u W3 ∧ Ow W3 N rcs rks rgs y) := by
    rw [unhide HE3]
    refine ⟨belowRow (unhide HBL2) (Nat.le_succ N) _, own_keep (unhide HOW).c (fun g hg => heapRow_other _ _ _ _ ?_), own_keep (unhide HOW).k (fun g hg => heapRow_other _ _ _ _ ?_), own_keep (unhide HOW).g (fun g hg => heapRow_other _ _ _ _ ?_)⟩
    · exact not_node (unhide HOW).c (by decide) (unhide HX2) g hg
    · exact not_node (unhide HOW).k (by decide) (unhide HX2) g hg
    · exact not_node (unhide HOW).g (by decide) (unhide HX2) g hg
  go_wp2
  refine bodyPost_ret (results_cell_tmp rfl _ _ (N + 1) 26 #[.bool rl, .slice y.ca rc y.cc, .slice y.ka rk y.kc, .slice y.ga rg y.gc] (0, 0) _ rfl (unhide HX3) nodeUnd rfl nodeInfo) rfl ?_
  exact ⟨_, rfl, y, by first | (rw [unhide HVR]; done) | (rw [unhide HVR]; rfl), (unhide HZ).2, (unhide HZ).1⟩
set_option maxRecDepth 100000 in
set_option maxHeartbeats 4000000 in
theorem bShrink3 (n : Nd) (a : Nv) (i : Int) (X : Nat) (u : World) (h : NdAt u n a) (hf : n.Few) (hX : u.cell? ⟨X, 0, none⟩ = some (.int .i64 i)) :
    Calls Try.prog 47 (#[a.v n] ++ #[.pointer (some ⟨X, 0, none⟩)]) u fun e u' => ∃ r, e = .returned r ∧ ∃ y : Nv, r = .tuple #[y.v (n.shR i), .int .i64 (n.shE i)] ∧ Ow u' u.heap.size (n.shR i).cells (n.shR i).keys (n.shR i).kids y ∧ Below u.heap.size u u' := by
  have H1 := hide (fun (v : World) (hv : Below u.heap.size u v) => nShrinkF n a i v (h.below hv) hf)
  have HX : Hid (∀ v : World, Below u.heap.size u v → v.cell? ⟨X, 0, none⟩ = some (.int .i64 i)) := fun v hv => (hv.cell (World.block_lt_of_cell? u _ hX)).trans hX
  clear h hf hX
  obtain ⟨N, hN⟩ : ∃ N, N = u.heap.size := ⟨_, rfl⟩
  have HN := hide hN
  rw [← hN] at H1 HX ⊢
  clear hN
  rw [Nv.v_eq] at H1 ⊢
  obtain ⟨ca, cc, ka, kc, ga, gc⟩ := a
  generalize n.shR i = R at *
  generalize n.shE i = E at *
  obtain ⟨rl, rcs, rks, rgs⟩ := R
  generalize n.cells.length = cn at *
  generalize n.keys.length = kn at *
  generalize n.kids.length = gn at *
  generalize n.leaf = lf at *
  have HVR : Hid (∀ x : Nv, x.v ⟨rl, rcs, rks, rgs⟩ = .agg #[.bool rl, .slice x.ca rcs.length x.cc, .slice x.ka rks.length x.kc, .slice x.ga rgs.length x.gc]) := fun x => rfl
  go_enter Try.func47, Try.ntmps47
  go_wp2_with (first
    | ((with_reducible refine wpList_box_node (by rfl) (.tmp 0) (by rfl) (some 2) (by rfl) N (unhide HN) lf ca cn cc ka kn kc ga gn gc (by with_unfolding_all rfl) ?_); intro W0 HX0 HB0 HS0; simp only [Act.put, List.setIfInBounds_toArray, List.set_cons_zero, List.set_cons_succ])
    | ((with_reducible refine wpList_alloc_node (by rfl) (by rfl) (some 3) (by rfl) (N + 1) (unhide HS0).symm ?_); intro W1 HX1 HB1 HS1; simp only [Act.put, List.setIfInBounds_toArray, List.set_cons_zero, List.set_cons_succ]; have HBL : Hid (Below N u W1) := (unhide HB0).trans ((unhide HB1).mono (Nat.le_succ _)); obtain ⟨y0, y1, y2, y3⟩ := box4 (((unhide HB1).block N (Nat.lt_succ_self _)).trans (unhide HX0)); have c0 := unhide HX _ (unhide HBL))
    | fail)
  refine (unhide H1 _ (unhide HBL)).mono ?_
  rintro e W2 ⟨y, rfl, how, hb2⟩
  have HX2 := hide (box_below (unhide HX1) hb2)
  have HBL2 : Hid (Below N u W2) := (unhide HBL).trans (hb2.mono (by rw [unhide HS1]; omega))
  have HOW : Hid (Ow W2 N rcs rks rgs y) := ⟨own_down how.c (by rw [unhide HS1]; omega), own_down how.k (by rw [unhide HS1]; omega), own_down how.g (by rw [unhide HS1]; omega)⟩
  rw [unhide HVR]
  clear how hb2 y0 y1 y2 y3 c0 HX0 HB0 HS0 HB1 HS1 HX1 HBL
  generalize hrc : rcs.length = rc at *
  generalize hrk : rks.length = rk at *
  generalize hrg : rgs.length = rg at *
  have HRL := hide (And.intro hrc (And.intro hrk hrg))
  clear hrc hrk hrg
  go_wp2_with (first
    | ((with_reducible refine wpList_store_node (by rfl) (.tmp 3) (.tmp 8) (by rfl) (N + 1) rl y.ca rc y.cc y.ka rk y.kc y.ga rg y.gc (by with_unfolding_all rfl) (by with_unfolding_all rfl) (unhide HX2) ?_); intro W3 HX3 HE3; simp only [Act.put])
    | fail)
  have HZ : Hid (Below N u W3 ∧ Ow W3 N rcs rks rgs y) := by
    rw [unhide HE3]
    refine ⟨belowRow (unhide HBL2) (Nat.le_succ N) _, own_keep (unhide HOW).c (fun g hg => heapRow_other _ _ _ _ ?_), own_keep (unhide HOW).k (fun g hg => heapRow_other _ _ _ _ ?_), own_keep (unhide HOW).g (fun g hg => heapRow_other _ _ _ _ ?_)⟩
    · exact not_node (unhide HOW).c (by decide) (unhide HX2) g hg
    · exact not_node (unhide HOW).k (by decide) (unhide HX2) g hg
    · exact not_node (unhide HOW).g (by decide) (unhide HX2) g hg
  go_wp2
  refine bodyPost_ret (results_cell_tmp rfl _ _ (N + 1) 26 #[.bool rl, .slice y.ca rc y.cc, .slice y.ka rk y.kc, .slice y.ga rg y.gc] (0, 0) _ rfl (unhide HX3) nodeUnd rfl nodeInfo) rfl ?_
  exact ⟨_, rfl, y, by first | (rw [unhide HVR]; done) | (rw [unhide HVR]; rfl), (unhide HZ).2, (unhide HZ).1⟩
set_option maxRecDepth 100000 in
set_option maxHeartbeats 4000000 in
theorem bShrink4 (n : Nd) (a : Nv) (i : Int) (X : Nat) (u : World) (h : NdAt u n a) (hf : n.Few) (hX : u.cell? ⟨X, 0, none⟩ = some (.int .i64 i)) :
    Calls Try.prog 49 (#[a.v n] ++ #[.pointer (some ⟨X, 0, none⟩)]) u fun e u' => ∃ r, e = .returned r ∧ ∃ y : Nv, r = .tuple #[y.v (n.shR i), .int .i64 (n.shE i)] ∧ Ow u' u.heap.size (n.shR i).cells (n.shR i).keys (n.shR i).kids y ∧ Below u.heap.size u u' := by
  have H1 := hide (fun (v : World) (hv : Below u.heap.size u v) => rShrinkF n a i v (h.below hv) hf)
  have HX : Hid (∀ v : World, Below u.heap.size u v → v.cell? ⟨X, 0, none⟩ = some (.int .i64 i)) := fun v hv => (hv.cell (World.block_lt_of_cell? u _ hX)).trans hX
  clear h hf hX
  obtain ⟨N, hN⟩ : ∃ N, N = u.heap.size := ⟨_, rfl⟩
  have HN := hide hN
  rw [← hN] at H1 HX ⊢
  clear hN
  rw [Nv.v_eq] at H1 ⊢
  obtain ⟨ca, cc, ka, kc, ga, gc⟩ := a
  generalize n.shR i = R at *
  generalize n.shE i = E at *
  obtain ⟨rl, rcs, rks, rgs⟩ := R
  generalize n.cells.length = cn at *
  generalize n.keys.length = kn at *
  generalize n.kids.length = gn at *
  generalize n.leaf = lf at *
  have HVR : Hid (∀ x : Nv, x.v ⟨rl, rcs, rks, rgs⟩ = .agg #[.bool rl, .slice x.ca rcs.length x.cc, .slice x.ka rks.length x.kc, .slice x.ga rgs.length x.gc]) := fun x => rfl
  go_enter Try.func49, Try.ntmps49
  go_wp2_with (first
    | ((with_reducible refine wpList_box_node (by rfl) (.tmp 0) (by rfl) (some 2) (by rfl) N (unhide HN) lf ca cn cc ka kn kc ga gn gc (by with_unfolding_all rfl) ?_); intro W0 HX0 HB0 HS0; simp only [Act.put, List.setIfInBounds_toArray, List.set_cons_zero, List.set_cons_succ])
    | ((with_reducible refine wpList_alloc_node (by rfl) (by rfl) (some 3) (by rfl) (N + 1) (unhide HS0).symm ?_); intro W1 HX1 HB1 HS1; simp only [Act.put, List.setIfInBounds_toArray, List.set_cons_zero, List.set_cons_succ]; have HBL : Hid (Below N u W1) := (unhide HB0).trans ((unhide HB1).mono (Nat.le_succ _)); obtain ⟨y0, y1, y2, y3⟩ := box4 (((unhide HB1).block N (Nat.lt_succ_self _)).trans (unhide HX0)); have c0 := unhide HX _ (unhide HBL))
    | fail)
  refine (unhide H1 _ (unhide HBL)).mono ?_
  rintro e W2 ⟨y, rfl, how, hb2⟩
  have HX2 := hide (box_below (unhide HX1) hb2)
  have HBL2 : Hid (Below N u W2) := (unhide HBL).trans (hb2.mono (by rw [unhide HS1]; omega))
  have HOW : Hid (Ow W2 N rcs rks rgs y) := ⟨own_down how.c (by rw [unhide HS1]; omega), own_down how.k (by rw [unhide HS1]; omega), own_down how.g (by rw [unhide HS1]; omega)⟩
  rw [unhide HVR]
  clear how hb2 y0 y1 y2 y3 c0 HX0 HB0 HS0 HB1 HS1 HX1 HBL
  generalize hrc : rcs.length = rc at *
  generalize hrk : rks.length = rk at *
  generalize hrg : rgs.length = rg at *
  have HRL := hide (And.intro hrc (And.intro hrk hrg))
  clear hrc hrk hrg
  go_wp2_with (first
    | ((with_reducible refine wpList_store_node (by rfl) (.tmp 3) (.tmp 8) (by rfl) (N + 1) rl y.ca rc y.cc y.ka rk y.kc y.ga rg y.gc (by with_unfolding_all rfl) (by with_unfolding_all rfl) (unhide HX2) ?_); intro W3 HX3 HE3; simp only [Act.put])
    | fail)
  have HZ : Hid (Below N u W3 ∧ Ow W3 N rcs rks rgs y) := by
    rw [unhide HE3]
    refine ⟨belowRow (unhide HBL2) (Nat.le_succ N) _, own_keep (unhide HOW).c (fun g hg => heapRow_other _ _ _ _ ?_), own_keep (unhide HOW).k (fun g hg => heapRow_other _ _ _ _ ?_), own_keep (unhide HOW).g (fun g hg => heapRow_other _ _ _ _ ?_)⟩
    · exact not_node (unhide HOW).c (by decide) (unhide HX2) g hg
    · exact not_node (unhide HOW).k (by decide) (unhide HX2) g hg
    · exact not_node (unhide HOW).g (by decide) (unhide HX2) g hg
  go_wp2
  refine bodyPost_ret (results_cell_tmp rfl _ _ (N + 1) 26 #[.bool rl, .slice y.ca rc y.cc, .slice y.ka rk y.kc, .slice y.ga rg y.gc] (0, 0) _ rfl (unhide HX3) nodeUnd rfl nodeInfo) rfl ?_
  exact ⟨_, rfl, y, by first | (rw [unhide HVR]; done) | (rw [unhide HVR]; rfl), (unhide HZ).2, (unhide HZ).1⟩
set_option maxRecDepth 100000 in
set_option maxHeartbeats 4000000 in
theorem bTurn5 (n : Nd) (a : Nv) (i : Int) (key : ByteArray) (X Y : Nat) (u : World) (h : NdAt u n a) (hf : n.Few) (hX : u.cell? ⟨X, 0, none⟩ = some (.int .i64 i)) (hY : u.cell? ⟨Y, 0, none⟩ = some (.string key)) :
    Calls Try.prog 51 (#[a.v n] ++ #[.pointer (some ⟨X, 0, none⟩), .pointer (some ⟨Y, 0, none⟩)]) u fun e u' => ∃ r, e = .returned r ∧ ∃ y : Nv, r = .tuple #[y.v (n.tuR i key), .int .i64 (n.tuE i key)] ∧ Ow u' u.heap.size (n.tuR i key).cells (n.tuR i key).keys (n.tuR i key).kids y ∧ Below u.heap.size u u' := by
  have H1 := hide (fun (v : World) (hv : Below u.heap.size u v) => nTurnF n a i key v (h.below hv) hf)
  have HX : Hid (∀ v : World, Below u.heap.size u v → v.cell? ⟨X, 0, none⟩ = some (.int .i64 i) ∧ v.cell? ⟨Y, 0, none⟩ = some (.string key)) := fun v hv => ⟨(hv.cell (World.block_lt_of_cell? u _ hX)).trans hX, (hv.cell (World.block_lt_of_cell? u _ hY)).trans hY⟩
  clear h hf hX hY
  obtain ⟨N, hN⟩ : ∃ N, N = u.heap.size := ⟨_, rfl⟩
  have HN := hide hN
  rw [← hN] at H1 HX ⊢
  clear hN
  rw [Nv.v_eq] at H1 ⊢
  obtain ⟨ca, cc, ka, kc, ga, gc⟩ := a
  generalize n.tuR i key = R at *
  generalize n.tuE i key = E at *
  obtain ⟨rl, rcs, rks, rgs⟩ := R
  generalize n.cells.length = cn at *
  generalize n.keys.length = kn at *
  generalize n.kids.length = gn at *
  generalize n.leaf = lf at *
  have HVR : Hid (∀ x : Nv, x.v ⟨rl, rcs, rks, rgs⟩ = .agg #[.bool rl, .slice x.ca rcs.length x.cc, .slice x.ka rks.length x.kc, .slice x.ga rgs.length x.gc]) := fun x => rfl
  go_enter Try.func51, Try.ntmps51
  go_wp2_with (first
    | ((with_reducible refine wpList_box_node (by rfl) (.tmp 0) (by rfl) (some 3) (by rfl) N (unhide HN) lf ca cn cc ka kn kc ga gn gc (by with_unfolding_all rfl) ?_); intro W0 HX0 HB0 HS0; simp only [Act.put, List.setIfInBounds_toArray, List.set_cons_zero, List.set_cons_succ])
    | ((with_reducible refine wpList_alloc_node (by rfl) (by rfl) (some 4) (by rfl) (N + 1) (unhide HS0).symm ?_); intro W1 HX1 HB1 HS1; simp only [Act.put, List.setIfInBounds_toArray, List.set_cons_zero, List.set_cons_succ]; have HBL : Hid (Below N u W1) := (unhide HB0).trans ((unhide HB1).mono (Nat.le_succ _)); obtain ⟨y0, y1, y2, y3⟩ := box4 (((unhide HB1).block N (Nat.lt_succ_self _)).trans (unhide HX0)); obtain ⟨c0, c1⟩ := unhide HX _ (unhide HBL))
    | fail)
  refine (unhide H1 _ (unhide HBL)).mono ?_
  rintro e W2 ⟨y, rfl, how, hb2⟩
  have HX2 := hide (box_below (unhide HX1) hb2)
  have HBL2 : Hid (Below N u W2) := (unhide HBL).trans (hb2.mono (by rw [unhide HS1]; omega))
  have HOW : Hid (Ow W2 N rcs rks rgs y) := ⟨own_down how.c (by rw [unhide HS1]; omega), own_down how.k (by rw [unhide HS1]; omega), own_down how.g (by rw [unhide HS1]; omega)⟩
  rw [unhide HVR]
  clear how hb2 y0 y1 y2 y3 c0 c1 HX0 HB0 HS0 HB1 HS1 HX1 HBL
  generalize hrc : rcs.length = rc at *
  generalize hrk : rks.length = rk at *
  generalize hrg : rgs.length = rg at *
  have HRL := hide (And.intro hrc (And.intro hrk hrg))
  clear hrc hrk hrg
  go_wp2_with (first
    | ((with_reducible refine wpList_store_node (by rfl) (.tmp 4) (.tmp 10) (by rfl) (N + 1) rl y.ca rc y.cc y.ka rk y.kc y.ga rg y.gc (by with_unfolding_all rfl) (by with_unfolding_all rfl) (unhide HX2) ?_); intro W3 HX3 HE3; simp only [Act.put])
    | fail)
  have HZ : Hid (Below N u W3 ∧ Ow W3 N rcs rks rgs y) := by
    rw [unhide HE3]
    refine ⟨belowRow (unhide HBL2) (Nat.le_succ N) _, own_keep (unhide HOW).c (fun g hg => heapRow_other _ _ _ _ ?_), own_keep (unhide HOW).k (fun g hg => heapRow_other _ _ _ _ ?_), own_keep (unhide HOW).g (fun g hg => heapRow_other _ _ _ _ ?_)⟩
    · exact not_node (unhide HOW).c (by decide) (unhide HX2) g hg
    · exact not_node (unhide HOW).k (by decide) (unhide HX2) g hg
    · exact not_node (unhide HOW).g (by decide) (unhide HX2) g hg
  go_wp2
  refine bodyPost_ret (results_cell_tmp rfl _ _ (N + 1) 26 #[.bool rl, .slice y.ca rc y.cc, .slice y.ka rk y.kc, .slice y.ga rg y.gc] (0, 0) _ rfl (unhide HX3) nodeUnd rfl nodeInfo) rfl ?_
  exact ⟨_, rfl, y, by first | (rw [unhide HVR]; done) | (rw [unhide HVR]; rfl), (unhide HZ).2, (unhide HZ).1⟩
set_option maxRecDepth 100000 in
set_option maxHeartbeats 4000000 in
theorem bTurn6 (n : Nd) (a : Nv) (i : Int) (key : ByteArray) (X Y : Nat) (u : World) (h : NdAt u n a) (hf : n.Few) (hX : u.cell? ⟨X, 0, none⟩ = some (.int .i64 i)) (hY : u.cell? ⟨Y, 0, none⟩ = some (.string key)) :
    Calls Try.prog 53 (#[a.v n] ++ #[.pointer (some ⟨X, 0, none⟩), .pointer (some ⟨Y, 0, none⟩)]) u fun e u' => ∃ r, e = .returned r ∧ ∃ y : Nv, r = .tuple #[y.v (n.tuR i key), .int .i64 (n.tuE i key)] ∧ Ow u' u.heap.size (n.tuR i key).cells (n.tuR i key).keys (n.tuR i key).kids y ∧ Below u.heap.size u u' := by
  have H1 := hide (fun (v : World) (hv : Below u.heap.size u v) => rTurnF n a i key v (h.below hv) hf)
  have HX : Hid (∀ v : World, Below u.heap.size u v → v.cell? ⟨X, 0, none⟩ = some (.int .i64 i) ∧ v.cell? ⟨Y, 0, none⟩ = some (.string key)) := fun v hv => ⟨(hv.cell (World.block_lt_of_cell? u _ hX)).trans hX, (hv.cell (World.block_lt_of_cell? u _ hY)).trans hY⟩
  clear h hf hX hY
  obtain ⟨N, hN⟩ : ∃ N, N = u.heap.size := ⟨_, rfl⟩
  have HN := hide hN
  rw [← hN] at H1 HX ⊢
  clear hN
  rw [Nv.v_eq] at H1 ⊢
  obtain ⟨ca, cc, ka, kc, ga, gc⟩ := a
  generalize n.tuR i key = R at *
  generalize n.tuE i key = E at *
  obtain ⟨rl, rcs, rks, rgs⟩ := R
  generalize n.cells.length = cn at *
  generalize n.keys.length = kn at *
  generalize n.kids.length = gn at *
  generalize n.leaf = lf at *
  have HVR : Hid (∀ x : Nv, x.v ⟨rl, rcs, rks, rgs⟩ = .agg #[.bool rl, .slice x.ca rcs.length x.cc, .slice x.ka rks.length x.kc, .slice x.ga rgs.length x.gc]) := fun x => rfl
  go_enter Try.func53, Try.ntmps53
  go_wp2_with (first
    | ((with_reducible refine wpList_box_node (by rfl) (.tmp 0) (by rfl) (some 3) (by rfl) N (unhide HN) lf ca cn cc ka kn kc ga gn gc (by with_unfolding_all rfl) ?_); intro W0 HX0 HB0 HS0; simp only [Act.put, List.setIfInBounds_toArray, List.set_cons_zero, List.set_cons_succ])
    | ((with_reducible refine wpList_alloc_node (by rfl) (by rfl) (some 4) (by rfl) (N + 1) (unhide HS0).symm ?_); intro W1 HX1 HB1 HS1; simp only [Act.put, List.setIfInBounds_toArray, List.set_cons_zero, List.set_cons_succ]; have HBL : Hid (Below N u W1) := (unhide HB0).trans ((unhide HB1).mono (Nat.le_succ _)); obtain ⟨y0, y1, y2, y3⟩ := box4 (((unhide HB1).block N (Nat.lt_succ_self _)).trans (unhide HX0)); obtain ⟨c0, c1⟩ := unhide HX _ (unhide HBL))
    | fail)
  refine (unhide H1 _ (unhide HBL)).mono ?_
  rintro e W2 ⟨y, rfl, how, hb2⟩
  have HX2 := hide (box_below (unhide HX1) hb2)
  have HBL2 : Hid (Below N u W2) := (unhide HBL).trans (hb2.mono (by rw [unhide HS1]; omega))
  have HOW : Hid (Ow W2 N rcs rks rgs y) := ⟨own_down how.c (by rw [unhide HS1]; omega), own_down how.k (by rw [unhide HS1]; omega), own_down how.g (by rw [unhide HS1]; omega)⟩
  rw [unhide HVR]
  clear how hb2 y0 y1 y2 y3 c0 c1 HX0 HB0 HS0 HB1 HS1 HX1 HBL
  generalize hrc : rcs.length = rc at *
  generalize hrk : rks.length = rk at *
  generalize hrg : rgs.length = rg at *
  have HRL := hide (And.intro hrc (And.intro hrk hrg))
  clear hrc hrk hrg
  go_wp2_with (first
    | ((with_reducible refine wpList_store_node (by rfl) (.tmp 4) (.tmp 10) (by rfl) (N + 1) rl y.ca rc y.cc y.ka rk y.kc y.ga rg y.gc (by with_unfolding_all rfl) (by with_unfolding_all rfl) (unhide HX2) ?_); intro W3 HX3 HE3; simp only [Act.put])
    | fail)
  have HZ : Hid (Below N u W3 ∧ Ow W3 N rcs rks rgs y) := by
    rw [unhide HE3]
    refine ⟨belowRow (unhide HBL2) (Nat.le_succ N) _, own_keep (unhide HOW).c (fun g hg => heapRow_other _ _ _ _ ?_), own_keep (unhide HOW).k (fun g hg => heapRow_other _ _ _ _ ?_), own_keep (unhide HOW).g (fun g hg => heapRow_other _ _ _ _ ?_)⟩
    · exact not_node (unhide HOW).c (by decide) (unhide HX2) g hg
    · exact not_node (unhide HOW).k (by decide) (unhide HX2) g hg
    · exact not_node (unhide HOW).g (by decide) (unhide HX2) g hg
  go_wp2
  refine bodyPost_ret (results_cell_tmp rfl _ _ (N + 1) 26 #[.bool rl, .slice y.ca rc y.cc, .slice y.ka rk y.kc, .slice y.ga rg y.gc] (0, 0) _ rfl (unhide HX3) nodeUnd rfl nodeInfo) rfl ?_
  exact ⟨_, rfl, y, by first | (rw [unhide HVR]; done) | (rw [unhide HVR]; rfl), (unhide HZ).2, (unhide HZ).1⟩
theorem entB (F : FuncId) (h : (Try.prog.funcs[F]?).map (fun fn => (fn.name == "runtime.NumGoroutine", fn.body.isNone)) = some (false, false)) (args : Array Value) (w : World) : (callFunc F args).run Try.prog w = .ok (.enter F args) w := by
  cases hq : Try.prog.funcs[F]? with
  | none => simp [hq] at h
  | some fn =>
    simp only [hq, Option.map_some, Option.some.injEq, Prod.mk.injEq] at h
    have h1 : fn.name ≠ "runtime.NumGoroutine" := by simpa using h.1
    cases hb : fn.body with
    | none => simp [hb] at h
    | some b => simp [callFunc, hq, h1, hb]
theorem bk {u v : World} {p : Addr} {x : Value} (hw : Below u.heap.size u v) (h : u.cell? p = some x) : v.cell? p = some x := (hw.cell (World.block_lt_of_cell? u _ h)).trans h
set_option maxRecDepth 100000 in
set_option maxHeartbeats 4000000 in
theorem branches8_walk (n : Nd) (a : Nv) (i : Int) (key : ByteArray) (kid : Nat) (hkl : kid < 4294967296) (u : World) (h : NdAt u n a) (hn : a.Nil) (hf : n.Few) : Calls Try.prog 7 #[a.v n, .int .i64 i, .string key, .int .u32 (kid : Int)] u fun e u' => e = .returned (.bool true) ∧ Below u.heap.size u u' := by
  have HP1 : Hid (∀ (v : World) (X Y Z : Nat), Below u.heap.size u v → v.cell? ⟨X, 0, none⟩ = some (.int .i64 i) → v.cell? ⟨Y, 0, none⟩ = some (.string key) → v.cell? ⟨Z, 0, none⟩ = some (.int .u32 (kid : Int)) → Calls Try.prog 33 #[a.v n, .func (.func 43) #[] #[.pointer (some ⟨X, 0, none⟩), .pointer (some ⟨Y, 0, none⟩), .pointer (some ⟨Z, 0, none⟩)], .func (.func 45) #[] #[.pointer (some ⟨X, 0, none⟩), .pointer (some ⟨Y, 0, none⟩), .pointer (some ⟨Z, 0, none⟩)]] v fun e u' => e = .returned (.bool true) ∧ Below v.heap.size v u') := fun v X Y Z hv hX hY hZ =>
    lAgain n a v (h.below hv) hn hf _ _ _ _ (entB _ (by kernel_rfl)) (entB _ (by kernel_rfl)) (fun m => m.grR i key kid) (fun m => m.grE i key kid) (fun v m x hx _ => grow_fine hx i key kid hkl)
      (fun w m x hw hx hm => bGrow1 m x i key kid hkl X Y Z w hx hm (bk hw hX) (bk hw hY) (bk hw hZ))
      (fun w m x hw hx hm => bGrow2 m x i key kid hkl X Y Z w hx hm (bk hw hX) (bk hw hY) (bk hw hZ))
  have HP2 : Hid (∀ (v : World) (X : Nat), Below u.heap.size u v → v.cell? ⟨X, 0, none⟩ = some (.int .i64 i) → Calls Try.prog 33 #[a.v n, .func (.func 47) #[] #[.pointer (some ⟨X, 0, none⟩)], .func (.func 49) #[] #[.pointer (some ⟨X, 0, none⟩)]] v fun e u' => e = .returned (.bool true) ∧ Below v.heap.size v u') := fun v X hv hX =>
    lAgain n a v (h.below hv) hn hf _ _ _ _ (entB _ (by kernel_rfl)) (entB _ (by kernel_rfl)) (fun m => m.shR i) (fun m => m.shE i) (fun v m x hx _ => shrink_fine hx i)
      (fun w m x hw hx hm => bShrink3 m x i X w hx hm (bk hw hX))
      (fun w m x hw hx hm => bShrink4 m x i X w hx hm (bk hw hX))
  have HP3 : Hid (∀ (v : World) (X Y : Nat), Below u.heap.size u v → v.cell? ⟨X, 0, none⟩ = some (.int .i64 i) → v.cell? ⟨Y, 0, none⟩ = some (.string key) → Calls Try.prog 33 #[a.v n, .func (.func 51) #[] #[.pointer (some ⟨X, 0, none⟩), .pointer (some ⟨Y, 0, none⟩)], .func (.func 53) #[] #[.pointer (some ⟨X, 0, none⟩), .pointer (some ⟨Y, 0, none⟩)]] v fun e u' => e = .returned (.bool true) ∧ Below v.heap.size v u') := fun v X Y hv hX hY =>
    lAgain n a v (h.below hv) hn hf _ _ _ _ (entB _ (by kernel_rfl)) (entB _ (by kernel_rfl)) (fun m => m.tuR i key) (fun m => m.tuE i key) (fun v m x hx _ => turn_fine hx i key)
      (fun w m x hw hx hm => bTurn5 m x i key X Y w hx hm (bk hw hX) (bk hw hY))
      (fun w m x hw hx hm => bTurn6 m x i key X Y w hx hm (bk hw hX) (bk hw hY))
  obtain ⟨N, hN⟩ : ∃ N, N = u.heap.size := ⟨_, rfl⟩
  have HN := hide hN
  rw [← hN] at HP1 HP2 HP3 ⊢
  clear hN h hn hf hkl
  rw [Nv.v_eq] at HP1 HP2 HP3 ⊢
  obtain ⟨ca, cc, ka, kc, ga, gc⟩ := a
  generalize n.cells.length = cn at *
  generalize n.keys.length = kn at *
  generalize n.kids.length = gn at *
  generalize n.leaf = lf at *
  go_enter Try.func7, Try.ntmps7
  go_wp2_with (first
    | ((with_reducible refine wpList_box_node (by rfl) (.tmp 0) (by rfl) (some 4) (by rfl) N (unhide HN) lf ca cn cc ka kn kc ga gn gc (by with_unfolding_all rfl) ?_); intro W0 HX0 HB0 HS0; simp only [Act.put, List.setIfInBounds_toArray, List.set_cons_zero, List.set_cons_succ]; have HBX : Hid (Below (N + 1) W0 (((W0.alloc (.cells #[.int .i64 i] 3)).alloc (.cells #[.string key] 9)).alloc (.cells #[.int .u32 (kid : Int)] 50))) := (((Below.refl (N + 1) W0).alloc (by rw [unhide HS0]; exact Nat.le_refl _) _).alloc (by simp; have := unhide HS0; omega) _).alloc (by simp; have := unhide HS0; omega) _; have HXB := hide (((unhide HBX).block N (Nat.lt_succ_self _)).trans (unhide HX0)); obtain ⟨y0, y1, y2, y3⟩ := box4 (unhide HXB))
    | fail)
  have hX : (((W0.alloc (.cells #[.int .i64 i] 3)).alloc (.cells #[.string key] 9)).alloc (.cells #[.int .u32 (kid : Int)] 50)).cell? ⟨W0.heap.size, 0, none⟩ = some (.int .i64 i) := by simp [go_sem]
  have hY : (((W0.alloc (.cells #[.int .i64 i] 3)).alloc (.cells #[.string key] 9)).alloc (.cells #[.int .u32 (kid : Int)] 50)).cell? ⟨W0.heap.size + 1, 0, none⟩ = some (.string key) := by simp [go_sem]
  have hZ : (((W0.alloc (.cells #[.int .i64 i] 3)).alloc (.cells #[.string key] 9)).alloc (.cells #[.int .u32 (kid : Int)] 50)).cell? ⟨W0.heap.size + 1 + 1, 0, none⟩ = some (.int .u32 (kid : Int)) := by simp [go_sem]
  have HBL : Hid (Below N u (((W0.alloc (.cells #[.int .i64 i] 3)).alloc (.cells #[.string key] 9)).alloc (.cells #[.int .u32 (kid : Int)] 50))) := (unhide HB0).trans ((unhide HBX).mono (Nat.le_succ _))
  generalize ((W0.alloc (.cells #[.int .i64 i] 3)).alloc (.cells #[.string key] 9)).alloc (.cells #[.int .u32 (kid : Int)] 50) = W1 at *
  generalize W0.heap.size = X at *
  refine (unhide HP1 W1 _ _ _ (unhide HBL) hX hY hZ).mono ?_
  rintro e W2 ⟨rfl, hb2⟩
  have HX2 := hide (box_below (unhide HXB) hb2)
  have HZ1 : Hid (N ≤ W1.heap.size) := Nat.le_of_lt (Array.getElem?_eq_some_iff.1 (unhide HXB)).1
  have HBL2 : Hid (Below N u W2) := (unhide HBL).trans (hb2.mono (unhide HZ1))
  have hX2 := bk hb2 hX
  have hY2 := bk hb2 hY
  have HT2 := hide (unhide HP2 W2 X (unhide HBL2) hX2)
  have HX2' := hide hX2
  have HY2' := hide hY2
  clear hb2 hX hY hZ hX2 hY2 y0 y1 y2 y3
  obtain ⟨y0, y1, y2, y3⟩ := box4 (unhide HX2)
  go_wp2_with fail
  refine (unhide HT2).mono ?_
  rintro e W3 ⟨rfl, hb3⟩
  have HX3 := hide (box_below (unhide HX2) hb3)
  have HBL3 : Hid (Below N u W3) := (unhide HBL2).trans (hb3.mono (by have := (Array.getElem?_eq_some_iff.1 (unhide HX2)).1; omega))
  have HT3 := hide (unhide HP3 W3 X (X + 1) (unhide HBL3) (bk hb3 (unhide HX2')) (bk hb3 (unhide HY2')))
  clear hb3 y0 y1 y2 y3
  obtain ⟨y0, y1, y2, y3⟩ := box4 (unhide HX3)
  go_wp2_with fail
  refine (unhide HT3).mono ?_
  rintro e W4 ⟨rfl, hb4⟩
  have HBL4 : Hid (Below N u W4) := (unhide HBL3).trans (hb4.mono (by have := (Array.getElem?_eq_some_iff.1 (unhide HX3)).1; omega))
  clear hb4
  go_wp2
  go_ret
  exact ⟨rfl, unhide HBL4⟩
theorem branches8_walkI (n : Nd) (a : Nv) (i : Int) (key : ByteArray) (kid : Int) (h0 : 0 ≤ kid) (h1 : kid < 4294967296) (u : World) (h : NdAt u n a) (hn : a.Nil) (hf : n.Few) : Calls Try.prog 7 #[a.v n, .int .i64 i, .string key, .int .u32 kid] u fun e u' => e = .returned (.bool true) ∧ Below u.heap.size u u' := by
  obtain ⟨k, rfl⟩ : ∃ k : Nat, kid = (k : Int) := ⟨kid.toNat, by omega⟩
  exact branches8_walk n a i key k (by omega) u h hn hf
end
end Go.Proofs.Ytppmpomfihalfaa
