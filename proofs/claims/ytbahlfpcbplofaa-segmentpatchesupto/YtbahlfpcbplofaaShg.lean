/- The walk of SegmentPatches. Written by mkshg.py. -/
import Derived.Test.YtbahlfpcbplofaaShe
import Derived.Deep.DeepCutAuto
namespace Go.Proofs.Ytbahlfpcbplofaa.S
open Go.RowKit Go.Lib
def dsw (d : Df) : Df := (d.1, d.2.2, d.2.1)
theorem entHS : ∀ args (w : World), (callFunc 51 args).run Try.prog w = .ok (.enter 51 args) w := by
  intro args w
  go_simp
theorem entPT : ∀ args (w : World), (callFunc 33 args).run Try.prog w = .ok (.enter 33 args) w := by
  intro args w
  go_simp
theorem PS.len {a b nl : List En} {i : Nat} (h : PS a b i nl) : nl.length ≤ a.length + b.length := by
  obtain ⟨p, s, h1, _, rfl⟩ := h
  have hb : (rig p ++ rig s).length = b.length := by rw [← rig_app, ← h1, mrg_rig]
  have ha : (lef p ++ lef s).length = a.length := by rw [← lef_app, ← h1, mrg_lef]
  rw [List.length_append] at ha hb ⊢
  omega
theorem asP {P : Program} {F : FuncId} {xs : Array Value} {w : World} {g : Option Addr → Nat → Nat → Value} {R : Option Addr → Nat → Nat → World → Prop} (h : Calls P F xs w fun e w' => ∃ x k c, e = .returned (g x k c) ∧ R x k c w') : Calls P F xs w fun e w' => ∃ v, e = .returned v ∧ ∃ x k c, v = g x k c ∧ R x k c w' :=
  h.mono fun _ _ ⟨x, k, c, h1, h2⟩ => ⟨_, h1, x, k, c, rfl, h2⟩
set_option maxRecDepth 100000 in
set_option maxHeartbeats 2000000 in
theorem lHas (l : List En) (ao : Option Addr) (n c : Nat) (k : ByteArray) (u : World) (h : El u l ao n c) (v : ByteArray) (hv : hasV l k = v) : Calls Try.prog 51 #[.slice ao n c, .string k] u fun e u' => e = .returned (.string v) ∧ u' = u := by
  have HH := hide h
  have hnf := h.few
  have hni : (n : Int) ≤ 4398046511000 := by omega
  have HRN := hide h.hn
  have HV := hide hv
  clear h hv hnf
  go_enter Try.func51, Try.ntmps51
  go_wp2
  go_loopw [5] (fun i wr => ∃ k0 : Nat, k0 ≤ n ∧ i = .int .i64 k0 ∧ Hid (wr = u ∧ hasV (l.drop k0) k = v)) (fun i _ => n - (intOf i).toNat)
  case atStart => exact ⟨0, Nat.zero_le _, rfl, rfl, unhide HV⟩
  case round =>
    obtain ⟨k0, hk, rfl, HI⟩ := hrel
    by_cases hlt : k0 < n
    · have hki : (k0 : Int) < (n : Int) := by omega
      have hkl : k0 < l.length := by rw [← unhide HRN]; exact hlt
      obtain ⟨g, o, hao, c1, c2⟩ := (unhide HH).en hkl
      subst hao
      have hix := ixE g o n c k0 hlt
      have hd := (unhide HI).2
      rw [List.drop_eq_getElem_cons hkl, hasV] at hd
      obtain rfl := (unhide HI).1
      clear HI
      generalize l[k0] = x at *
      obtain ⟨xk, xs⟩ := x
      have c1 : wr.cell? ⟨g, o + k0 * 2, none⟩ = some (.string xk) := c1
      have c2 : wr.cell? ⟨g, o + k0 * 2 + 1, none⟩ = some (.string xs) := c2
      generalize o + k0 * 2 = oo at *
      by_cases hq : xk = k
      · rw [if_pos hq] at hd
        have HD := hide hd
        have hb : (xk.toList == k.toList) = true := by rw [hq]; simp
        have hb2 : xk.toList = k.toList := by rw [hq]
        clear hd hq
        go_wp2
        go_ret
        exact ⟨by rw [← unhide HD]; rfl, rfl⟩
      · rw [if_neg hq] at hd
        have HD := hide hd
        have hb : (xk.toList == k.toList) = false := by rw [ba_beq]; exact decide_eq_false hq
        have hb2 : ¬ xk.toList = k.toList := fun e => hq (ba_list e)
        clear hd hq
        go_wp2
        go_roundw
        case rel => exact ⟨k0 + 1, by omega, by go_num, trivial, unhide HD⟩
        case measure => simp [intOf]; omega
    · obtain rfl : k0 = n := by omega
      have hki : ¬ (k0 : Int) < (k0 : Int) := by omega
      go_wp2
      go_ret
      refine ⟨?_, (unhide HI).1⟩
      have h1 := (unhide HI).2
      rw [List.drop_eq_nil_of_le (by rw [← unhide HRN]; exact Nat.le_refl _)] at h1
      rw [← h1]; rfl
set_option maxRecDepth 100000 in
set_option maxHeartbeats 16000000 in
theorem patches14_walk (a b : List En) (ao bo : Option Addr) (n m c d : Nat) (u : World) (ha : El u a ao n c) (hb : El u b bo m d) (hn : n ≤ 1048576) (hm : m ≤ 1048576) : Calls Try.prog 10 #[.slice ao n c, .slice bo m d] u fun e u' => e = .returned (.bool true) ∧ Below u.heap.size u u' := by
  have hmix : Try.prog.follows .mixedOrders = true := by kernel_rfl
  have HA := hide ha
  have HB := hide hb
  have HNA := hide ha.hn
  have HNB := hide hb.hn
  have HNN : Hid (n ≤ 1048576) := hn
  have HMM : Hid (m ≤ 1048576) := hm
  have hni : (n : Int) ≤ 1048576 := by omega
  have hmi : (m : Int) ≤ 1048576 := by omega
  have HNM : Hid (n + m ≤ 1099511627776) := by show n + m ≤ _; omega
  have HAW := hide (lAwake u)
  have HL1 := hide fun (G : World) (hG : Below u.heap.size u G) => qList a ao n c G (ha.below hG)
  have HL2 := hide fun (G : World) (hG : Below u.heap.size u G) => qList b bo m d G (hb.below hG)
  have HCA : Hid (∀ i (hi : i < a.length), ∃ g o, ao = some ⟨g, o, none⟩ ∧ ∀ G : World, Below u.heap.size u G → G.cell? ⟨g, o + i * 2, none⟩ = some (.string a[i].1) ∧ G.cell? ⟨g, o + i * 2 + 1, none⟩ = some (.string a[i].2)) := fun i hi => by
    obtain ⟨g, o, e, _⟩ := ha.en hi
    refine ⟨g, o, e, fun G hG => ?_⟩
    obtain ⟨g', o', e', h3⟩ := (ha.below hG).en hi
    rw [e] at e'; cases e'; exact h3
  have HCB : Hid (∀ i (hi : i < b.length), ∃ g o, bo = some ⟨g, o, none⟩ ∧ ∀ G : World, Below u.heap.size u G → G.cell? ⟨g, o + i * 2, none⟩ = some (.string b[i].1) ∧ G.cell? ⟨g, o + i * 2 + 1, none⟩ = some (.string b[i].2)) := fun i hi => by
    obtain ⟨g, o, e, _⟩ := hb.en hi
    refine ⟨g, o, e, fun G hG => ?_⟩
    obtain ⟨g', o', e', h3⟩ := (hb.below hG).en hi
    rw [e] at e'; cases e'; exact h3
  clear ha hb hn hm
  go_enter Try.func10, Try.ntmps10
  go_upto_region 3 with (first
    | (go_at_call 49; refine (unhide HAW).mono ?_; rintro e W1 ⟨rfl, hb⟩; have HB1 := hide hb; clear hb)
    | fail)
  go_cut [47] from 17 to 47 (fun s47 wx => ∃ p : Bool, s47 = .bool p ∧ (p = false → ∃ wd, Ok a wd ∧ Ok b wd) ∧ Hid (Below u.heap.size u wx))
  case first =>
    by_cases h1 : liB a = true
    · rw [h1] at HL1
      by_cases h2 : liB b = true
      · rw [h2] at HL2
        by_cases hn0 : 0 < n
        · have hn1 : (n : Int) > 0 := by omega
          have hn2 : (0 : Int) < (n : Int) := by omega
          by_cases hm0 : 0 < m
          · have hm1 : (m : Int) > 0 := by omega
            have hm2 : (0 : Int) < (m : Int) := by omega
            have hal : 0 < a.length := by rw [← unhide HNA]; exact hn0
            have hbl : 0 < b.length := by rw [← unhide HNB]; exact hm0
            obtain ⟨g, o, hao, HXA⟩ := unhide HCA 0 hal
            obtain ⟨g2, o2, hbo, HYA⟩ := unhide HCB 0 hbl
            have hix : ∀ W : World, (Instr.indexAt 27 (.slice ao n c) (.int .i64 0)).run Try.prog W = .ok (.pointer (some ⟨g, o, none⟩)) W := fun W => by
              have := ixE g o n c 0 hn0 W
              rw [Nat.zero_mul, Nat.add_zero] at this
              rw [hao]; exact this
            have hix2 : ∀ W : World, (Instr.indexAt 27 (.slice bo m d) (.int .i64 0)).run Try.prog W = .ok (.pointer (some ⟨g2, o2, none⟩)) W := fun W => by
              have := ixE g2 o2 m d 0 hm0 W
              rw [Nat.zero_mul, Nat.add_zero] at this
              rw [hbo]; exact this
            obtain ⟨xs, hxs⟩ : ∃ x, x = a[0].2 := ⟨_, rfl⟩
            obtain ⟨ys, hys⟩ : ∃ x, x = b[0].2 := ⟨_, rfl⟩
            have HXS : Hid (∀ G : World, Below u.heap.size u G → G.cell? ⟨g, o + 1, none⟩ = some (.string xs)) := fun G hG => by
              have := (HXA G hG).2
              rwa [Nat.zero_mul, Nat.add_zero, ← hxs] at this
            have HYS : Hid (∀ G : World, Below u.heap.size u G → G.cell? ⟨g2, o2 + 1, none⟩ = some (.string ys)) := fun G hG => by
              have := (HYA G hG).2
              rwa [Nat.zero_mul, Nat.add_zero, ← hys] at this
            clear HXA HYA
            clear hao hbo
            by_cases hsz : xs.size = ys.size
            · have HF : Hid (∃ wd, Ok a wd ∧ Ok b wd) := both_ok h1 h2 (fun _ _ => by rw [← hxs, ← hys]; exact hsz)
              have hszi : (xs.size : Int) = (ys.size : Int) := by omega
              have hszb : ((xs.size : Int) != (ys.size : Int)) = false := by simpa using hszi
              clear hxs hys hsz h1 h2
              refine wp_region_last (fun G => Below u.heap.size u G) 30 hmix (belowDrew (unhide HB1)) fun hS => ?_
              have HS0 := hide hS
              clear hS
              generalize W1.drew = X0 at HS0 ⊢
              refine wpAnyL_take 0 17 (.slice ao n c) [1, 3, 5, 8] rfl rfl (by kernel_rfl) (by kernel_rfl) (by kernel_rfl) (by kernel_rfl) (by kernel_rfl) (fun _ _ _ h => h) (by rfl) (fun _ _ => by go_simp) (unhide HS0) ?_
              simp only [Act.put, List.setIfInBounds_toArray, List.set_cons_zero, List.set_cons_succ]
              refine wpAnyL_one (i := 1) (by kernel_rfl) rfl (by rfl) fun K hK => ?_
              refine wp_call_fn 50 _ _ (by rfl) #[.slice ao n c] (by with_unfolding_all rfl) entQL (some 18) (by rfl) _ (asV (unhide HL1 X0 (unhide HS0))) ?_
              rintro _ X1 ⟨rfl, hb⟩
              have HS1 : Hid (Below u.heap.size u X1) := Below.step (unhide HS0) hb
              clear hb HS0
              refine hK _ _ (fun _ => unhide HS1) ?_
              clear hK K
              simp only [Act.put, List.setIfInBounds_toArray, List.set_cons_zero, List.set_cons_succ]
              refine wpAnyL_take 2 19 (.bool false) [3, 5, 8] rfl rfl (by kernel_rfl) (by kernel_rfl) (by kernel_rfl) (by kernel_rfl) (by kernel_rfl) (fun _ _ _ h => h) (by rfl) (fun _ _ => by go_simp) (unhide HS1) ?_
              simp only [Act.put, List.setIfInBounds_toArray, List.set_cons_zero, List.set_cons_succ]
              refine wpAnyL_take 3 20 (.bool false) [5, 8] rfl rfl (by kernel_rfl) (by kernel_rfl) (by kernel_rfl) (by kernel_rfl) (by kernel_rfl) (fun _ _ _ h => h) (by rfl) (fun _ _ => by go_simp) (unhide HS1) ?_
              simp only [Act.put, List.setIfInBounds_toArray, List.set_cons_zero, List.set_cons_succ]
              refine wpAnyL_take 4 21 (.slice bo m d) [5, 8] rfl rfl (by kernel_rfl) (by kernel_rfl) (by kernel_rfl) (by kernel_rfl) (by kernel_rfl) (fun _ _ _ h => h) (by rfl) (fun _ _ => by go_simp) (unhide HS1) ?_
              simp only [Act.put, List.setIfInBounds_toArray, List.set_cons_zero, List.set_cons_succ]
              refine wpAnyL_one (i := 5) (by kernel_rfl) rfl (by rfl) fun K hK => ?_
              refine wp_call_fn 50 _ _ (by rfl) #[.slice bo m d] (by with_unfolding_all rfl) entQL (some 22) (by rfl) _ (asV (unhide HL2 X1 (unhide HS1))) ?_
              rintro _ X2 ⟨rfl, hb⟩
              have HS2 : Hid (Below u.heap.size u X2) := Below.step (unhide HS1) hb
              clear hb HS1
              refine hK _ _ (fun _ => unhide HS2) ?_
              clear hK K
              simp only [Act.put, List.setIfInBounds_toArray, List.set_cons_zero, List.set_cons_succ]
              refine wpAnyL_take 6 23 (.bool false) [7, 8] rfl rfl (by kernel_rfl) (by kernel_rfl) (by kernel_rfl) (by kernel_rfl) (by kernel_rfl) (fun _ _ _ h => h) (by rfl) (fun _ _ => by go_simp) (unhide HS2) ?_
              simp only [Act.put, List.setIfInBounds_toArray, List.set_cons_zero, List.set_cons_succ]
              refine wpAnyL_take 7 24 (.bool false) [8] rfl rfl (by kernel_rfl) (by kernel_rfl) (by kernel_rfl) (by kernel_rfl) (by kernel_rfl) (fun _ _ _ h => h) (by rfl) (fun _ _ => by go_simp) (unhide HS2) ?_
              simp only [Act.put, List.setIfInBounds_toArray, List.set_cons_zero, List.set_cons_succ]
              refine wpAnyL_take 8 25 (.bool false) [] rfl rfl (by kernel_rfl) (by kernel_rfl) (by kernel_rfl) (by kernel_rfl) (by kernel_rfl) (fun _ _ _ h => h) (by rfl) (fun _ _ => by go_simp) (unhide HS2) ?_
              simp only [Act.put, List.setIfInBounds_toArray, List.set_cons_zero, List.set_cons_succ]
              refine wpAnyL_take 9 26 (.slice ao n c) [10, 11, 12, 17, 29] rfl rfl (by kernel_rfl) (by kernel_rfl) (by kernel_rfl) (by kernel_rfl) (by kernel_rfl) (fun _ _ _ h => h) (by rfl) (fun _ _ => by go_simp) (unhide HS2) ?_
              simp only [Act.put, List.setIfInBounds_toArray, List.set_cons_zero, List.set_cons_succ]
              refine wpAnyL_take 10 27 (.int .i64 (n : Int)) [11, 12, 17, 29] rfl rfl (by kernel_rfl) (by kernel_rfl) (by kernel_rfl) (by kernel_rfl) (by kernel_rfl) (fun _ _ _ h => h) (by rfl) (fun _ _ => by go_simp) (unhide HS2) ?_
              simp only [Act.put, List.setIfInBounds_toArray, List.set_cons_zero, List.set_cons_succ]
              refine wpAnyL_take 11 28 (.bool true) [12, 17, 29] rfl rfl (by kernel_rfl) (by kernel_rfl) (by kernel_rfl) (by kernel_rfl) (by kernel_rfl) (fun _ _ _ h => h) (by rfl) (fun _ _ => by go_simp) (unhide HS2) ?_
              simp only [Act.put, List.setIfInBounds_toArray, List.set_cons_zero, List.set_cons_succ]
              refine wpAnyL_take 12 29 (.bool true) [17, 29] rfl rfl (by kernel_rfl) (by kernel_rfl) (by kernel_rfl) (by kernel_rfl) (by kernel_rfl) (fun _ _ _ h => h) (by rfl) (fun _ _ => by go_simp) (unhide HS2) ?_
              simp only [Act.put, List.setIfInBounds_toArray, List.set_cons_zero, List.set_cons_succ]
              refine wpAnyL_take 13 30 (.slice bo m d) [14, 15, 16, 17, 29] rfl rfl (by kernel_rfl) (by kernel_rfl) (by kernel_rfl) (by kernel_rfl) (by kernel_rfl) (fun _ _ _ h => h) (by rfl) (fun _ _ => by go_simp) (unhide HS2) ?_
              simp only [Act.put, List.setIfInBounds_toArray, List.set_cons_zero, List.set_cons_succ]
              refine wpAnyL_take 14 31 (.int .i64 (m : Int)) [15, 16, 17, 29] rfl rfl (by kernel_rfl) (by kernel_rfl) (by kernel_rfl) (by kernel_rfl) (by kernel_rfl) (fun _ _ _ h => h) (by rfl) (fun _ _ => by go_simp) (unhide HS2) ?_
              simp only [Act.put, List.setIfInBounds_toArray, List.set_cons_zero, List.set_cons_succ]
              refine wpAnyL_take 15 32 (.bool true) [16, 17, 29] rfl rfl (by kernel_rfl) (by kernel_rfl) (by kernel_rfl) (by kernel_rfl) (by kernel_rfl) (fun _ _ _ h => h) (by rfl) (fun _ _ => by go_simp) (unhide HS2) ?_
              simp only [Act.put, List.setIfInBounds_toArray, List.set_cons_zero, List.set_cons_succ]
              refine wpAnyL_take 16 33 (.bool true) [17, 29] rfl rfl (by kernel_rfl) (by kernel_rfl) (by kernel_rfl) (by kernel_rfl) (by kernel_rfl) (fun _ _ _ h => h) (by rfl) (fun _ _ => by go_simp) (unhide HS2) ?_
              simp only [Act.put, List.setIfInBounds_toArray, List.set_cons_zero, List.set_cons_succ]
              refine wpAnyL_take 17 34 (.bool true) [29] rfl rfl (by kernel_rfl) (by kernel_rfl) (by kernel_rfl) (by kernel_rfl) (by kernel_rfl) (fun _ _ _ h => h) (by rfl) (fun _ _ => by go_simp) (unhide HS2) ?_
              simp only [Act.put, List.setIfInBounds_toArray, List.set_cons_zero, List.set_cons_succ]
              refine wpAnyL_take 18 35 (.slice ao n c) [19, 20, 21, 22, 28, 29] rfl rfl (by kernel_rfl) (by kernel_rfl) (by kernel_rfl) (by kernel_rfl) (by kernel_rfl) (fun _ _ _ h => h) (by rfl) (fun _ _ => by go_simp) (unhide HS2) ?_
              simp only [Act.put, List.setIfInBounds_toArray, List.set_cons_zero, List.set_cons_succ]
              refine wpAnyL_take 19 36 (.pointer (some ⟨g, o, none⟩)) [20, 21, 22, 28, 29] rfl rfl (by kernel_rfl) (by kernel_rfl) (by kernel_rfl) (by kernel_rfl) (by kernel_rfl) (fun _ _ _ h => h) (by rfl) (fun _ _ => by go_simp) (unhide HS2) ?_
              simp only [Act.put, List.setIfInBounds_toArray, List.set_cons_zero, List.set_cons_succ]
              refine wpAnyL_take 20 37 (.pointer (some ⟨g, o + 1, none⟩)) [21, 22, 28, 29] rfl rfl (by kernel_rfl) (by kernel_rfl) (by kernel_rfl) (by kernel_rfl) (by kernel_rfl) (fun _ _ _ h => h) (by rfl) (fun _ _ => by go_simp) (unhide HS2) ?_
              simp only [Act.put, List.setIfInBounds_toArray, List.set_cons_zero, List.set_cons_succ]
              refine wpAnyL_take 21 38 (.string xs) [22, 28, 29] rfl rfl (by kernel_rfl) (by kernel_rfl) (by kernel_rfl) (by kernel_rfl) (by kernel_rfl) (fun _ _ _ h => h) (by rfl) (fun G hG => by have e0 := unhide HXS G hG; go_simp) (unhide HS2) ?_
              simp only [Act.put, List.setIfInBounds_toArray, List.set_cons_zero, List.set_cons_succ]
              refine wpAnyL_take 22 39 (.int .i64 (xs.size : Int)) [28, 29] rfl rfl (by kernel_rfl) (by kernel_rfl) (by kernel_rfl) (by kernel_rfl) (by kernel_rfl) (fun _ _ _ h => h) (by rfl) (fun _ _ => by go_simp) (unhide HS2) ?_
              simp only [Act.put, List.setIfInBounds_toArray, List.set_cons_zero, List.set_cons_succ]
              refine wpAnyL_take 23 40 (.slice bo m d) [24, 25, 26, 27, 28, 29] rfl rfl (by kernel_rfl) (by kernel_rfl) (by kernel_rfl) (by kernel_rfl) (by kernel_rfl) (fun _ _ _ h => h) (by rfl) (fun _ _ => by go_simp) (unhide HS2) ?_
              simp only [Act.put, List.setIfInBounds_toArray, List.set_cons_zero, List.set_cons_succ]
              refine wpAnyL_take 24 41 (.pointer (some ⟨g2, o2, none⟩)) [25, 26, 27, 28, 29] rfl rfl (by kernel_rfl) (by kernel_rfl) (by kernel_rfl) (by kernel_rfl) (by kernel_rfl) (fun _ _ _ h => h) (by rfl) (fun _ _ => by go_simp) (unhide HS2) ?_
              simp only [Act.put, List.setIfInBounds_toArray, List.set_cons_zero, List.set_cons_succ]
              refine wpAnyL_take 25 42 (.pointer (some ⟨g2, o2 + 1, none⟩)) [26, 27, 28, 29] rfl rfl (by kernel_rfl) (by kernel_rfl) (by kernel_rfl) (by kernel_rfl) (by kernel_rfl) (fun _ _ _ h => h) (by rfl) (fun _ _ => by go_simp) (unhide HS2) ?_
              simp only [Act.put, List.setIfInBounds_toArray, List.set_cons_zero, List.set_cons_succ]
              refine wpAnyL_take 26 43 (.string ys) [27, 28, 29] rfl rfl (by kernel_rfl) (by kernel_rfl) (by kernel_rfl) (by kernel_rfl) (by kernel_rfl) (fun _ _ _ h => h) (by rfl) (fun G hG => by have e0 := unhide HYS G hG; go_simp) (unhide HS2) ?_
              simp only [Act.put, List.setIfInBounds_toArray, List.set_cons_zero, List.set_cons_succ]
              refine wpAnyL_take 27 44 (.int .i64 (ys.size : Int)) [28, 29] rfl rfl (by kernel_rfl) (by kernel_rfl) (by kernel_rfl) (by kernel_rfl) (by kernel_rfl) (fun _ _ _ h => h) (by rfl) (fun _ _ => by go_simp) (unhide HS2) ?_
              simp only [Act.put, List.setIfInBounds_toArray, List.set_cons_zero, List.set_cons_succ]
              refine wpAnyL_take 28 45 (.bool false) [29] rfl rfl (by kernel_rfl) (by kernel_rfl) (by kernel_rfl) (by kernel_rfl) (by kernel_rfl) (fun _ _ _ h => h) (by rfl) (fun _ _ => by go_simp) (unhide HS2) ?_
              simp only [Act.put, List.setIfInBounds_toArray, List.set_cons_zero, List.set_cons_succ]
              refine wpAnyL_take 29 46 (.bool false) [] rfl rfl (by kernel_rfl) (by kernel_rfl) (by kernel_rfl) (by kernel_rfl) (by kernel_rfl) (fun _ _ _ h => h) (by rfl) (fun _ _ => by go_simp) (unhide HS2) ?_
              simp only [Act.put, List.setIfInBounds_toArray, List.set_cons_zero, List.set_cons_succ]
              refine wpAnyL_one (i := 30) (by kernel_rfl) rfl (by rfl) fun K hK => ?_
              refine wp_val (.bool false) (by go_simp) (some 47) (by rfl) ?_
              refine hK _ _ (fun _ => unhide HS2) ?_
              clear hK K
              simp only [Act.put, List.setIfInBounds_toArray, List.set_cons_zero, List.set_cons_succ]
              refine wpAnyL_done (by kernel_rfl) ?_ _
              have HSE := HS2
              clear HS2
              go_wp2_with fail
              go_meet
              exact ⟨false, rfl, fun _ => unhide HF, unhide HSE⟩
            · have hszi : ¬ (xs.size : Int) = (ys.size : Int) := by omega
              have hszb : ((xs.size : Int) != (ys.size : Int)) = true := by simpa using hszi
              clear hxs hys hsz h1 h2
              refine wp_region_last (fun G => Below u.heap.size u G) 30 hmix (belowDrew (unhide HB1)) fun hS => ?_
              have HS0 := hide hS
              clear hS
              generalize W1.drew = X0 at HS0 ⊢
              refine wpAnyL_take 0 17 (.slice ao n c) [1, 3, 5, 8] rfl rfl (by kernel_rfl) (by kernel_rfl) (by kernel_rfl) (by kernel_rfl) (by kernel_rfl) (fun _ _ _ h => h) (by rfl) (fun _ _ => by go_simp) (unhide HS0) ?_
              simp only [Act.put, List.setIfInBounds_toArray, List.set_cons_zero, List.set_cons_succ]
              refine wpAnyL_one (i := 1) (by kernel_rfl) rfl (by rfl) fun K hK => ?_
              refine wp_call_fn 50 _ _ (by rfl) #[.slice ao n c] (by with_unfolding_all rfl) entQL (some 18) (by rfl) _ (asV (unhide HL1 X0 (unhide HS0))) ?_
              rintro _ X1 ⟨rfl, hb⟩
              have HS1 : Hid (Below u.heap.size u X1) := Below.step (unhide HS0) hb
              clear hb HS0
              refine hK _ _ (fun _ => unhide HS1) ?_
              clear hK K
              simp only [Act.put, List.setIfInBounds_toArray, List.set_cons_zero, List.set_cons_succ]
              refine wpAnyL_take 2 19 (.bool false) [3, 5, 8] rfl rfl (by kernel_rfl) (by kernel_rfl) (by kernel_rfl) (by kernel_rfl) (by kernel_rfl) (fun _ _ _ h => h) (by rfl) (fun _ _ => by go_simp) (unhide HS1) ?_
              simp only [Act.put, List.setIfInBounds_toArray, List.set_cons_zero, List.set_cons_succ]
              refine wpAnyL_take 3 20 (.bool false) [5, 8] rfl rfl (by kernel_rfl) (by kernel_rfl) (by kernel_rfl) (by kernel_rfl) (by kernel_rfl) (fun _ _ _ h => h) (by rfl) (fun _ _ => by go_simp) (unhide HS1) ?_
              simp only [Act.put, List.setIfInBounds_toArray, List.set_cons_zero, List.set_cons_succ]
              refine wpAnyL_take 4 21 (.slice bo m d) [5, 8] rfl rfl (by kernel_rfl) (by kernel_rfl) (by kernel_rfl) (by kernel_rfl) (by kernel_rfl) (fun _ _ _ h => h) (by rfl) (fun _ _ => by go_simp) (unhide HS1) ?_
              simp only [Act.put, List.setIfInBounds_toArray, List.set_cons_zero, List.set_cons_succ]
              refine wpAnyL_one (i := 5) (by kernel_rfl) rfl (by rfl) fun K hK => ?_
              refine wp_call_fn 50 _ _ (by rfl) #[.slice bo m d] (by with_unfolding_all rfl) entQL (some 22) (by rfl) _ (asV (unhide HL2 X1 (unhide HS1))) ?_
              rintro _ X2 ⟨rfl, hb⟩
              have HS2 : Hid (Below u.heap.size u X2) := Below.step (unhide HS1) hb
              clear hb HS1
              refine hK _ _ (fun _ => unhide HS2) ?_
              clear hK K
              simp only [Act.put, List.setIfInBounds_toArray, List.set_cons_zero, List.set_cons_succ]
              refine wpAnyL_take 6 23 (.bool false) [7, 8] rfl rfl (by kernel_rfl) (by kernel_rfl) (by kernel_rfl) (by kernel_rfl) (by kernel_rfl) (fun _ _ _ h => h) (by rfl) (fun _ _ => by go_simp) (unhide HS2) ?_
              simp only [Act.put, List.setIfInBounds_toArray, List.set_cons_zero, List.set_cons_succ]
              refine wpAnyL_take 7 24 (.bool false) [8] rfl rfl (by kernel_rfl) (by kernel_rfl) (by kernel_rfl) (by kernel_rfl) (by kernel_rfl) (fun _ _ _ h => h) (by rfl) (fun _ _ => by go_simp) (unhide HS2) ?_
              simp only [Act.put, List.setIfInBounds_toArray, List.set_cons_zero, List.set_cons_succ]
              refine wpAnyL_take 8 25 (.bool false) [] rfl rfl (by kernel_rfl) (by kernel_rfl) (by kernel_rfl) (by kernel_rfl) (by kernel_rfl) (fun _ _ _ h => h) (by rfl) (fun _ _ => by go_simp) (unhide HS2) ?_
              simp only [Act.put, List.setIfInBounds_toArray, List.set_cons_zero, List.set_cons_succ]
              refine wpAnyL_take 9 26 (.slice ao n c) [10, 11, 12, 17, 29] rfl rfl (by kernel_rfl) (by kernel_rfl) (by kernel_rfl) (by kernel_rfl) (by kernel_rfl) (fun _ _ _ h => h) (by rfl) (fun _ _ => by go_simp) (unhide HS2) ?_
              simp only [Act.put, List.setIfInBounds_toArray, List.set_cons_zero, List.set_cons_succ]
              refine wpAnyL_take 10 27 (.int .i64 (n : Int)) [11, 12, 17, 29] rfl rfl (by kernel_rfl) (by kernel_rfl) (by kernel_rfl) (by kernel_rfl) (by kernel_rfl) (fun _ _ _ h => h) (by rfl) (fun _ _ => by go_simp) (unhide HS2) ?_
              simp only [Act.put, List.setIfInBounds_toArray, List.set_cons_zero, List.set_cons_succ]
              refine wpAnyL_take 11 28 (.bool true) [12, 17, 29] rfl rfl (by kernel_rfl) (by kernel_rfl) (by kernel_rfl) (by kernel_rfl) (by kernel_rfl) (fun _ _ _ h => h) (by rfl) (fun _ _ => by go_simp) (unhide HS2) ?_
              simp only [Act.put, List.setIfInBounds_toArray, List.set_cons_zero, List.set_cons_succ]
              refine wpAnyL_take 12 29 (.bool true) [17, 29] rfl rfl (by kernel_rfl) (by kernel_rfl) (by kernel_rfl) (by kernel_rfl) (by kernel_rfl) (fun _ _ _ h => h) (by rfl) (fun _ _ => by go_simp) (unhide HS2) ?_
              simp only [Act.put, List.setIfInBounds_toArray, List.set_cons_zero, List.set_cons_succ]
              refine wpAnyL_take 13 30 (.slice bo m d) [14, 15, 16, 17, 29] rfl rfl (by kernel_rfl) (by kernel_rfl) (by kernel_rfl) (by kernel_rfl) (by kernel_rfl) (fun _ _ _ h => h) (by rfl) (fun _ _ => by go_simp) (unhide HS2) ?_
              simp only [Act.put, List.setIfInBounds_toArray, List.set_cons_zero, List.set_cons_succ]
              refine wpAnyL_take 14 31 (.int .i64 (m : Int)) [15, 16, 17, 29] rfl rfl (by kernel_rfl) (by kernel_rfl) (by kernel_rfl) (by kernel_rfl) (by kernel_rfl) (fun _ _ _ h => h) (by rfl) (fun _ _ => by go_simp) (unhide HS2) ?_
              simp only [Act.put, List.setIfInBounds_toArray, List.set_cons_zero, List.set_cons_succ]
              refine wpAnyL_take 15 32 (.bool true) [16, 17, 29] rfl rfl (by kernel_rfl) (by kernel_rfl) (by kernel_rfl) (by kernel_rfl) (by kernel_rfl) (fun _ _ _ h => h) (by rfl) (fun _ _ => by go_simp) (unhide HS2) ?_
              simp only [Act.put, List.setIfInBounds_toArray, List.set_cons_zero, List.set_cons_succ]
              refine wpAnyL_take 16 33 (.bool true) [17, 29] rfl rfl (by kernel_rfl) (by kernel_rfl) (by kernel_rfl) (by kernel_rfl) (by kernel_rfl) (fun _ _ _ h => h) (by rfl) (fun _ _ => by go_simp) (unhide HS2) ?_
              simp only [Act.put, List.setIfInBounds_toArray, List.set_cons_zero, List.set_cons_succ]
              refine wpAnyL_take 17 34 (.bool true) [29] rfl rfl (by kernel_rfl) (by kernel_rfl) (by kernel_rfl) (by kernel_rfl) (by kernel_rfl) (fun _ _ _ h => h) (by rfl) (fun _ _ => by go_simp) (unhide HS2) ?_
              simp only [Act.put, List.setIfInBounds_toArray, List.set_cons_zero, List.set_cons_succ]
              refine wpAnyL_take 18 35 (.slice ao n c) [19, 20, 21, 22, 28, 29] rfl rfl (by kernel_rfl) (by kernel_rfl) (by kernel_rfl) (by kernel_rfl) (by kernel_rfl) (fun _ _ _ h => h) (by rfl) (fun _ _ => by go_simp) (unhide HS2) ?_
              simp only [Act.put, List.setIfInBounds_toArray, List.set_cons_zero, List.set_cons_succ]
              refine wpAnyL_take 19 36 (.pointer (some ⟨g, o, none⟩)) [20, 21, 22, 28, 29] rfl rfl (by kernel_rfl) (by kernel_rfl) (by kernel_rfl) (by kernel_rfl) (by kernel_rfl) (fun _ _ _ h => h) (by rfl) (fun _ _ => by go_simp) (unhide HS2) ?_
              simp only [Act.put, List.setIfInBounds_toArray, List.set_cons_zero, List.set_cons_succ]
              refine wpAnyL_take 20 37 (.pointer (some ⟨g, o + 1, none⟩)) [21, 22, 28, 29] rfl rfl (by kernel_rfl) (by kernel_rfl) (by kernel_rfl) (by kernel_rfl) (by kernel_rfl) (fun _ _ _ h => h) (by rfl) (fun _ _ => by go_simp) (unhide HS2) ?_
              simp only [Act.put, List.setIfInBounds_toArray, List.set_cons_zero, List.set_cons_succ]
              refine wpAnyL_take 21 38 (.string xs) [22, 28, 29] rfl rfl (by kernel_rfl) (by kernel_rfl) (by kernel_rfl) (by kernel_rfl) (by kernel_rfl) (fun _ _ _ h => h) (by rfl) (fun G hG => by have e0 := unhide HXS G hG; go_simp) (unhide HS2) ?_
              simp only [Act.put, List.setIfInBounds_toArray, List.set_cons_zero, List.set_cons_succ]
              refine wpAnyL_take 22 39 (.int .i64 (xs.size : Int)) [28, 29] rfl rfl (by kernel_rfl) (by kernel_rfl) (by kernel_rfl) (by kernel_rfl) (by kernel_rfl) (fun _ _ _ h => h) (by rfl) (fun _ _ => by go_simp) (unhide HS2) ?_
              simp only [Act.put, List.setIfInBounds_toArray, List.set_cons_zero, List.set_cons_succ]
              refine wpAnyL_take 23 40 (.slice bo m d) [24, 25, 26, 27, 28, 29] rfl rfl (by kernel_rfl) (by kernel_rfl) (by kernel_rfl) (by kernel_rfl) (by kernel_rfl) (fun _ _ _ h => h) (by rfl) (fun _ _ => by go_simp) (unhide HS2) ?_
              simp only [Act.put, List.setIfInBounds_toArray, List.set_cons_zero, List.set_cons_succ]
              refine wpAnyL_take 24 41 (.pointer (some ⟨g2, o2, none⟩)) [25, 26, 27, 28, 29] rfl rfl (by kernel_rfl) (by kernel_rfl) (by kernel_rfl) (by kernel_rfl) (by kernel_rfl) (fun _ _ _ h => h) (by rfl) (fun _ _ => by go_simp) (unhide HS2) ?_
              simp only [Act.put, List.setIfInBounds_toArray, List.set_cons_zero, List.set_cons_succ]
              refine wpAnyL_take 25 42 (.pointer (some ⟨g2, o2 + 1, none⟩)) [26, 27, 28, 29] rfl rfl (by kernel_rfl) (by kernel_rfl) (by kernel_rfl) (by kernel_rfl) (by kernel_rfl) (fun _ _ _ h => h) (by rfl) (fun _ _ => by go_simp) (unhide HS2) ?_
              simp only [Act.put, List.setIfInBounds_toArray, List.set_cons_zero, List.set_cons_succ]
              refine wpAnyL_take 26 43 (.string ys) [27, 28, 29] rfl rfl (by kernel_rfl) (by kernel_rfl) (by kernel_rfl) (by kernel_rfl) (by kernel_rfl) (fun _ _ _ h => h) (by rfl) (fun G hG => by have e0 := unhide HYS G hG; go_simp) (unhide HS2) ?_
              simp only [Act.put, List.setIfInBounds_toArray, List.set_cons_zero, List.set_cons_succ]
              refine wpAnyL_take 27 44 (.int .i64 (ys.size : Int)) [28, 29] rfl rfl (by kernel_rfl) (by kernel_rfl) (by kernel_rfl) (by kernel_rfl) (by kernel_rfl) (fun _ _ _ h => h) (by rfl) (fun _ _ => by go_simp) (unhide HS2) ?_
              simp only [Act.put, List.setIfInBounds_toArray, List.set_cons_zero, List.set_cons_succ]
              refine wpAnyL_take 28 45 (.bool true) [29] rfl rfl (by kernel_rfl) (by kernel_rfl) (by kernel_rfl) (by kernel_rfl) (by kernel_rfl) (fun _ _ _ h => h) (by rfl) (fun _ _ => by go_simp) (unhide HS2) ?_
              simp only [Act.put, List.setIfInBounds_toArray, List.set_cons_zero, List.set_cons_succ]
              refine wpAnyL_take 29 46 (.bool true) [] rfl rfl (by kernel_rfl) (by kernel_rfl) (by kernel_rfl) (by kernel_rfl) (by kernel_rfl) (fun _ _ _ h => h) (by rfl) (fun _ _ => by go_simp) (unhide HS2) ?_
              simp only [Act.put, List.setIfInBounds_toArray, List.set_cons_zero, List.set_cons_succ]
              refine wpAnyL_one (i := 30) (by kernel_rfl) rfl (by rfl) fun K hK => ?_
              refine wp_val (.bool true) (by go_simp) (some 47) (by rfl) ?_
              refine hK _ _ (fun _ => unhide HS2) ?_
              clear hK K
              simp only [Act.put, List.setIfInBounds_toArray, List.set_cons_zero, List.set_cons_succ]
              refine wpAnyL_done (by kernel_rfl) ?_ _
              have HSE := HS2
              clear HS2
              go_wp2_with fail
              go_meet
              exact ⟨true, rfl, fun h => (by cases h), unhide HSE⟩
          · obtain rfl : m = 0 := by omega
            have HF : Hid (∃ wd, Ok a wd ∧ Ok b wd) := both_ok h1 h2 (fun _ h => absurd h (by rw [← unhide HNB]; exact hm0))
            have hm1 : ¬ ((0 : Nat) : Int) > 0 := by decide
            clear h1 h2
            refine wp_region_last (fun G => Below u.heap.size u G) 30 hmix (belowDrew (unhide HB1)) fun hS => ?_
            have HS0 := hide hS
            clear hS
            generalize W1.drew = X0 at HS0 ⊢
            refine wpAnyL_take 0 17 (.slice ao n c) [1, 3, 5, 8] rfl rfl (by kernel_rfl) (by kernel_rfl) (by kernel_rfl) (by kernel_rfl) (by kernel_rfl) (fun _ _ _ h => h) (by rfl) (fun _ _ => by go_simp) (unhide HS0) ?_
            simp only [Act.put, List.setIfInBounds_toArray, List.set_cons_zero, List.set_cons_succ]
            refine wpAnyL_one (i := 1) (by kernel_rfl) rfl (by rfl) fun K hK => ?_
            refine wp_call_fn 50 _ _ (by rfl) #[.slice ao n c] (by with_unfolding_all rfl) entQL (some 18) (by rfl) _ (asV (unhide HL1 X0 (unhide HS0))) ?_
            rintro _ X1 ⟨rfl, hb⟩
            have HS1 : Hid (Below u.heap.size u X1) := Below.step (unhide HS0) hb
            clear hb HS0
            refine hK _ _ (fun _ => unhide HS1) ?_
            clear hK K
            simp only [Act.put, List.setIfInBounds_toArray, List.set_cons_zero, List.set_cons_succ]
            refine wpAnyL_take 2 19 (.bool false) [3, 5, 8] rfl rfl (by kernel_rfl) (by kernel_rfl) (by kernel_rfl) (by kernel_rfl) (by kernel_rfl) (fun _ _ _ h => h) (by rfl) (fun _ _ => by go_simp) (unhide HS1) ?_
            simp only [Act.put, List.setIfInBounds_toArray, List.set_cons_zero, List.set_cons_succ]
            refine wpAnyL_take 3 20 (.bool false) [5, 8] rfl rfl (by kernel_rfl) (by kernel_rfl) (by kernel_rfl) (by kernel_rfl) (by kernel_rfl) (fun _ _ _ h => h) (by rfl) (fun _ _ => by go_simp) (unhide HS1) ?_
            simp only [Act.put, List.setIfInBounds_toArray, List.set_cons_zero, List.set_cons_succ]
            refine wpAnyL_take 4 21 (.slice bo 0 d) [5, 8] rfl rfl (by kernel_rfl) (by kernel_rfl) (by kernel_rfl) (by kernel_rfl) (by kernel_rfl) (fun _ _ _ h => h) (by rfl) (fun _ _ => by go_simp) (unhide HS1) ?_
            simp only [Act.put, List.setIfInBounds_toArray, List.set_cons_zero, List.set_cons_succ]
            refine wpAnyL_one (i := 5) (by kernel_rfl) rfl (by rfl) fun K hK => ?_
            refine wp_call_fn 50 _ _ (by rfl) #[.slice bo 0 d] (by with_unfolding_all rfl) entQL (some 22) (by rfl) _ (asV (unhide HL2 X1 (unhide HS1))) ?_
            rintro _ X2 ⟨rfl, hb⟩
            have HS2 : Hid (Below u.heap.size u X2) := Below.step (unhide HS1) hb
            clear hb HS1
            refine hK _ _ (fun _ => unhide HS2) ?_
            clear hK K
            simp only [Act.put, List.setIfInBounds_toArray, List.set_cons_zero, List.set_cons_succ]
            refine wpAnyL_take 6 23 (.bool false) [7, 8] rfl rfl (by kernel_rfl) (by kernel_rfl) (by kernel_rfl) (by kernel_rfl) (by kernel_rfl) (fun _ _ _ h => h) (by rfl) (fun _ _ => by go_simp) (unhide HS2) ?_
            simp only [Act.put, List.setIfInBounds_toArray, List.set_cons_zero, List.set_cons_succ]
            refine wpAnyL_take 7 24 (.bool false) [8] rfl rfl (by kernel_rfl) (by kernel_rfl) (by kernel_rfl) (by kernel_rfl) (by kernel_rfl) (fun _ _ _ h => h) (by rfl) (fun _ _ => by go_simp) (unhide HS2) ?_
            simp only [Act.put, List.setIfInBounds_toArray, List.set_cons_zero, List.set_cons_succ]
            refine wpAnyL_take 8 25 (.bool false) [] rfl rfl (by kernel_rfl) (by kernel_rfl) (by kernel_rfl) (by kernel_rfl) (by kernel_rfl) (fun _ _ _ h => h) (by rfl) (fun _ _ => by go_simp) (unhide HS2) ?_
            simp only [Act.put, List.setIfInBounds_toArray, List.set_cons_zero, List.set_cons_succ]
            refine wpAnyL_take 9 26 (.slice ao n c) [10, 11, 12, 17, 29] rfl rfl (by kernel_rfl) (by kernel_rfl) (by kernel_rfl) (by kernel_rfl) (by kernel_rfl) (fun _ _ _ h => h) (by rfl) (fun _ _ => by go_simp) (unhide HS2) ?_
            simp only [Act.put, List.setIfInBounds_toArray, List.set_cons_zero, List.set_cons_succ]
            refine wpAnyL_take 10 27 (.int .i64 (n : Int)) [11, 12, 17, 29] rfl rfl (by kernel_rfl) (by kernel_rfl) (by kernel_rfl) (by kernel_rfl) (by kernel_rfl) (fun _ _ _ h => h) (by rfl) (fun _ _ => by go_simp) (unhide HS2) ?_
            simp only [Act.put, List.setIfInBounds_toArray, List.set_cons_zero, List.set_cons_succ]
            refine wpAnyL_take 11 28 (.bool true) [12, 17, 29] rfl rfl (by kernel_rfl) (by kernel_rfl) (by kernel_rfl) (by kernel_rfl) (by kernel_rfl) (fun _ _ _ h => h) (by rfl) (fun _ _ => by go_simp) (unhide HS2) ?_
            simp only [Act.put, List.setIfInBounds_toArray, List.set_cons_zero, List.set_cons_succ]
            refine wpAnyL_take 12 29 (.bool true) [17, 29] rfl rfl (by kernel_rfl) (by kernel_rfl) (by kernel_rfl) (by kernel_rfl) (by kernel_rfl) (fun _ _ _ h => h) (by rfl) (fun _ _ => by go_simp) (unhide HS2) ?_
            simp only [Act.put, List.setIfInBounds_toArray, List.set_cons_zero, List.set_cons_succ]
            refine wpAnyL_take 13 30 (.slice bo 0 d) [14, 15, 16, 17, 29] rfl rfl (by kernel_rfl) (by kernel_rfl) (by kernel_rfl) (by kernel_rfl) (by kernel_rfl) (fun _ _ _ h => h) (by rfl) (fun _ _ => by go_simp) (unhide HS2) ?_
            simp only [Act.put, List.setIfInBounds_toArray, List.set_cons_zero, List.set_cons_succ]
            refine wpAnyL_take 14 31 (.int .i64 ((0 : Nat) : Int)) [15, 16, 17, 29] rfl rfl (by kernel_rfl) (by kernel_rfl) (by kernel_rfl) (by kernel_rfl) (by kernel_rfl) (fun _ _ _ h => h) (by rfl) (fun _ _ => by go_simp) (unhide HS2) ?_
            simp only [Act.put, List.setIfInBounds_toArray, List.set_cons_zero, List.set_cons_succ]
            refine wpAnyL_take 15 32 (.bool false) [16, 17, 29] rfl rfl (by kernel_rfl) (by kernel_rfl) (by kernel_rfl) (by kernel_rfl) (by kernel_rfl) (fun _ _ _ h => h) (by rfl) (fun _ _ => by go_simp) (unhide HS2) ?_
            simp only [Act.put, List.setIfInBounds_toArray, List.set_cons_zero, List.set_cons_succ]
            refine wpAnyL_take 16 33 (.bool false) [17, 29] rfl rfl (by kernel_rfl) (by kernel_rfl) (by kernel_rfl) (by kernel_rfl) (by kernel_rfl) (fun _ _ _ h => h) (by rfl) (fun _ _ => by go_simp) (unhide HS2) ?_
            simp only [Act.put, List.setIfInBounds_toArray, List.set_cons_zero, List.set_cons_succ]
            refine wpAnyL_take 17 34 (.bool false) [29] rfl rfl (by kernel_rfl) (by kernel_rfl) (by kernel_rfl) (by kernel_rfl) (by kernel_rfl) (fun _ _ _ h => h) (by rfl) (fun _ _ => by go_simp) (unhide HS2) ?_
            simp only [Act.put, List.setIfInBounds_toArray, List.set_cons_zero, List.set_cons_succ]
            refine wpAnyL_skip 18 35 [19, 20, 21, 22, 28, 29] rfl rfl (by kernel_rfl) (by kernel_rfl) (by kernel_rfl) (by kernel_rfl) (by kernel_rfl) (fun _ _ _ h => h) (by rfl) (unhide HS2) ?_
            simp only [Act.put, List.setIfInBounds_toArray, List.set_cons_zero, List.set_cons_succ]
            refine wpAnyL_skip 19 36 [20, 21, 22, 28, 29] rfl rfl (by kernel_rfl) (by kernel_rfl) (by kernel_rfl) (by kernel_rfl) (by kernel_rfl) (fun _ _ _ h => h) (by rfl) (unhide HS2) ?_
            simp only [Act.put, List.setIfInBounds_toArray, List.set_cons_zero, List.set_cons_succ]
            refine wpAnyL_skip 20 37 [21, 22, 28, 29] rfl rfl (by kernel_rfl) (by kernel_rfl) (by kernel_rfl) (by kernel_rfl) (by kernel_rfl) (fun _ _ _ h => h) (by rfl) (unhide HS2) ?_
            simp only [Act.put, List.setIfInBounds_toArray, List.set_cons_zero, List.set_cons_succ]
            refine wpAnyL_skip 21 38 [22, 28, 29] rfl rfl (by kernel_rfl) (by kernel_rfl) (by kernel_rfl) (by kernel_rfl) (by kernel_rfl) (fun _ _ _ h => h) (by rfl) (unhide HS2) ?_
            simp only [Act.put, List.setIfInBounds_toArray, List.set_cons_zero, List.set_cons_succ]
            refine wpAnyL_skip 22 39 [28, 29] rfl rfl (by kernel_rfl) (by kernel_rfl) (by kernel_rfl) (by kernel_rfl) (by kernel_rfl) (fun _ _ _ h => h) (by rfl) (unhide HS2) ?_
            simp only [Act.put, List.setIfInBounds_toArray, List.set_cons_zero, List.set_cons_succ]
            refine wpAnyL_skip 23 40 [24, 25, 26, 27, 28, 29] rfl rfl (by kernel_rfl) (by kernel_rfl) (by kernel_rfl) (by kernel_rfl) (by kernel_rfl) (fun _ _ _ h => h) (by rfl) (unhide HS2) ?_
            simp only [Act.put, List.setIfInBounds_toArray, List.set_cons_zero, List.set_cons_succ]
            refine wpAnyL_skip 24 41 [25, 26, 27, 28, 29] rfl rfl (by kernel_rfl) (by kernel_rfl) (by kernel_rfl) (by kernel_rfl) (by kernel_rfl) (fun _ _ _ h => h) (by rfl) (unhide HS2) ?_
            simp only [Act.put, List.setIfInBounds_toArray, List.set_cons_zero, List.set_cons_succ]
            refine wpAnyL_skip 25 42 [26, 27, 28, 29] rfl rfl (by kernel_rfl) (by kernel_rfl) (by kernel_rfl) (by kernel_rfl) (by kernel_rfl) (fun _ _ _ h => h) (by rfl) (unhide HS2) ?_
            simp only [Act.put, List.setIfInBounds_toArray, List.set_cons_zero, List.set_cons_succ]
            refine wpAnyL_skip 26 43 [27, 28, 29] rfl rfl (by kernel_rfl) (by kernel_rfl) (by kernel_rfl) (by kernel_rfl) (by kernel_rfl) (fun _ _ _ h => h) (by rfl) (unhide HS2) ?_
            simp only [Act.put, List.setIfInBounds_toArray, List.set_cons_zero, List.set_cons_succ]
            refine wpAnyL_skip 27 44 [28, 29] rfl rfl (by kernel_rfl) (by kernel_rfl) (by kernel_rfl) (by kernel_rfl) (by kernel_rfl) (fun _ _ _ h => h) (by rfl) (unhide HS2) ?_
            simp only [Act.put, List.setIfInBounds_toArray, List.set_cons_zero, List.set_cons_succ]
            refine wpAnyL_skip 28 45 [29] rfl rfl (by kernel_rfl) (by kernel_rfl) (by kernel_rfl) (by kernel_rfl) (by kernel_rfl) (fun _ _ _ h => h) (by rfl) (unhide HS2) ?_
            simp only [Act.put, List.setIfInBounds_toArray, List.set_cons_zero, List.set_cons_succ]
            refine wpAnyL_take 29 46 (.bool false) [] rfl rfl (by kernel_rfl) (by kernel_rfl) (by kernel_rfl) (by kernel_rfl) (by kernel_rfl) (fun _ _ _ h => h) (by rfl) (fun _ _ => by go_simp) (unhide HS2) ?_
            simp only [Act.put, List.setIfInBounds_toArray, List.set_cons_zero, List.set_cons_succ]
            refine wpAnyL_one (i := 30) (by kernel_rfl) rfl (by rfl) fun K hK => ?_
            refine wp_val (.bool false) (by go_simp) (some 47) (by rfl) ?_
            refine hK _ _ (fun _ => unhide HS2) ?_
            clear hK K
            simp only [Act.put, List.setIfInBounds_toArray, List.set_cons_zero, List.set_cons_succ]
            refine wpAnyL_done (by kernel_rfl) ?_ _
            have HSE := HS2
            clear HS2
            go_wp2_with fail
            go_meet
            exact ⟨false, rfl, fun _ => unhide HF, unhide HSE⟩
        · obtain rfl : n = 0 := by omega
          have HF : Hid (∃ wd, Ok a wd ∧ Ok b wd) := both_ok h1 h2 (fun h _ => absurd h (by rw [← unhide HNA]; exact hn0))
          have hn1 : ¬ ((0 : Nat) : Int) > 0 := by decide
          clear h1 h2
          refine wp_region_last (fun G => Below u.heap.size u G) 30 hmix (belowDrew (unhide HB1)) fun hS => ?_
          have HS0 := hide hS
          clear hS
          generalize W1.drew = X0 at HS0 ⊢
          refine wpAnyL_take 0 17 (.slice ao 0 c) [1, 3, 5, 8] rfl rfl (by kernel_rfl) (by kernel_rfl) (by kernel_rfl) (by kernel_rfl) (by kernel_rfl) (fun _ _ _ h => h) (by rfl) (fun _ _ => by go_simp) (unhide HS0) ?_
          simp only [Act.put, List.setIfInBounds_toArray, List.set_cons_zero, List.set_cons_succ]
          refine wpAnyL_one (i := 1) (by kernel_rfl) rfl (by rfl) fun K hK => ?_
          refine wp_call_fn 50 _ _ (by rfl) #[.slice ao 0 c] (by with_unfolding_all rfl) entQL (some 18) (by rfl) _ (asV (unhide HL1 X0 (unhide HS0))) ?_
          rintro _ X1 ⟨rfl, hb⟩
          have HS1 : Hid (Below u.heap.size u X1) := Below.step (unhide HS0) hb
          clear hb HS0
          refine hK _ _ (fun _ => unhide HS1) ?_
          clear hK K
          simp only [Act.put, List.setIfInBounds_toArray, List.set_cons_zero, List.set_cons_succ]
          refine wpAnyL_take 2 19 (.bool false) [3, 5, 8] rfl rfl (by kernel_rfl) (by kernel_rfl) (by kernel_rfl) (by kernel_rfl) (by kernel_rfl) (fun _ _ _ h => h) (by rfl) (fun _ _ => by go_simp) (unhide HS1) ?_
          simp only [Act.put, List.setIfInBounds_toArray, List.set_cons_zero, List.set_cons_succ]
          refine wpAnyL_take 3 20 (.bool false) [5, 8] rfl rfl (by kernel_rfl) (by kernel_rfl) (by kernel_rfl) (by kernel_rfl) (by kernel_rfl) (fun _ _ _ h => h) (by rfl) (fun _ _ => by go_simp) (unhide HS1) ?_
          simp only [Act.put, List.setIfInBounds_toArray, List.set_cons_zero, List.set_cons_succ]
          refine wpAnyL_take 4 21 (.slice bo m d) [5, 8] rfl rfl (by kernel_rfl) (by kernel_rfl) (by kernel_rfl) (by kernel_rfl) (by kernel_rfl) (fun _ _ _ h => h) (by rfl) (fun _ _ => by go_simp) (unhide HS1) ?_
          simp only [Act.put, List.setIfInBounds_toArray, List.set_cons_zero, List.set_cons_succ]
          refine wpAnyL_one (i := 5) (by kernel_rfl) rfl (by rfl) fun K hK => ?_
          refine wp_call_fn 50 _ _ (by rfl) #[.slice bo m d] (by with_unfolding_all rfl) entQL (some 22) (by rfl) _ (asV (unhide HL2 X1 (unhide HS1))) ?_
          rintro _ X2 ⟨rfl, hb⟩
          have HS2 : Hid (Below u.heap.size u X2) := Below.step (unhide HS1) hb
          clear hb HS1
          refine hK _ _ (fun _ => unhide HS2) ?_
          clear hK K
          simp only [Act.put, List.setIfInBounds_toArray, List.set_cons_zero, List.set_cons_succ]
          refine wpAnyL_take 6 23 (.bool false) [7, 8] rfl rfl (by kernel_rfl) (by kernel_rfl) (by kernel_rfl) (by kernel_rfl) (by kernel_rfl) (fun _ _ _ h => h) (by rfl) (fun _ _ => by go_simp) (unhide HS2) ?_
          simp only [Act.put, List.setIfInBounds_toArray, List.set_cons_zero, List.set_cons_succ]
          refine wpAnyL_take 7 24 (.bool false) [8] rfl rfl (by kernel_rfl) (by kernel_rfl) (by kernel_rfl) (by kernel_rfl) (by kernel_rfl) (fun _ _ _ h => h) (by rfl) (fun _ _ => by go_simp) (unhide HS2) ?_
          simp only [Act.put, List.setIfInBounds_toArray, List.set_cons_zero, List.set_cons_succ]
          refine wpAnyL_take 8 25 (.bool false) [] rfl rfl (by kernel_rfl) (by kernel_rfl) (by kernel_rfl) (by kernel_rfl) (by kernel_rfl) (fun _ _ _ h => h) (by rfl) (fun _ _ => by go_simp) (unhide HS2) ?_
          simp only [Act.put, List.setIfInBounds_toArray, List.set_cons_zero, List.set_cons_succ]
          refine wpAnyL_take 9 26 (.slice ao 0 c) [10, 11, 12, 17, 29] rfl rfl (by kernel_rfl) (by kernel_rfl) (by kernel_rfl) (by kernel_rfl) (by kernel_rfl) (fun _ _ _ h => h) (by rfl) (fun _ _ => by go_simp) (unhide HS2) ?_
          simp only [Act.put, List.setIfInBounds_toArray, List.set_cons_zero, List.set_cons_succ]
          refine wpAnyL_take 10 27 (.int .i64 ((0 : Nat) : Int)) [11, 12, 17, 29] rfl rfl (by kernel_rfl) (by kernel_rfl) (by kernel_rfl) (by kernel_rfl) (by kernel_rfl) (fun _ _ _ h => h) (by rfl) (fun _ _ => by go_simp) (unhide HS2) ?_
          simp only [Act.put, List.setIfInBounds_toArray, List.set_cons_zero, List.set_cons_succ]
          refine wpAnyL_take 11 28 (.bool false) [12, 17, 29] rfl rfl (by kernel_rfl) (by kernel_rfl) (by kernel_rfl) (by kernel_rfl) (by kernel_rfl) (fun _ _ _ h => h) (by rfl) (fun _ _ => by go_simp) (unhide HS2) ?_
          simp only [Act.put, List.setIfInBounds_toArray, List.set_cons_zero, List.set_cons_succ]
          refine wpAnyL_take 12 29 (.bool false) [17, 29] rfl rfl (by kernel_rfl) (by kernel_rfl) (by kernel_rfl) (by kernel_rfl) (by kernel_rfl) (fun _ _ _ h => h) (by rfl) (fun _ _ => by go_simp) (unhide HS2) ?_
          simp only [Act.put, List.setIfInBounds_toArray, List.set_cons_zero, List.set_cons_succ]
          refine wpAnyL_skip 13 30 [14, 15, 16, 17, 29] rfl rfl (by kernel_rfl) (by kernel_rfl) (by kernel_rfl) (by kernel_rfl) (by kernel_rfl) (fun _ _ _ h => h) (by rfl) (unhide HS2) ?_
          simp only [Act.put, List.setIfInBounds_toArray, List.set_cons_zero, List.set_cons_succ]
          refine wpAnyL_skip 14 31 [15, 16, 17, 29] rfl rfl (by kernel_rfl) (by kernel_rfl) (by kernel_rfl) (by kernel_rfl) (by kernel_rfl) (fun _ _ _ h => h) (by rfl) (unhide HS2) ?_
          simp only [Act.put, List.setIfInBounds_toArray, List.set_cons_zero, List.set_cons_succ]
          refine wpAnyL_skip 15 32 [16, 17, 29] rfl rfl (by kernel_rfl) (by kernel_rfl) (by kernel_rfl) (by kernel_rfl) (by kernel_rfl) (fun _ _ _ h => h) (by rfl) (unhide HS2) ?_
          simp only [Act.put, List.setIfInBounds_toArray, List.set_cons_zero, List.set_cons_succ]
          refine wpAnyL_take 16 33 (.bool false) [17, 29] rfl rfl (by kernel_rfl) (by kernel_rfl) (by kernel_rfl) (by kernel_rfl) (by kernel_rfl) (fun _ _ _ h => h) (by rfl) (fun _ _ => by go_simp) (unhide HS2) ?_
          simp only [Act.put, List.setIfInBounds_toArray, List.set_cons_zero, List.set_cons_succ]
          refine wpAnyL_take 17 34 (.bool false) [29] rfl rfl (by kernel_rfl) (by kernel_rfl) (by kernel_rfl) (by kernel_rfl) (by kernel_rfl) (fun _ _ _ h => h) (by rfl) (fun _ _ => by go_simp) (unhide HS2) ?_
          simp only [Act.put, List.setIfInBounds_toArray, List.set_cons_zero, List.set_cons_succ]
          refine wpAnyL_skip 18 35 [19, 20, 21, 22, 28, 29] rfl rfl (by kernel_rfl) (by kernel_rfl) (by kernel_rfl) (by kernel_rfl) (by kernel_rfl) (fun _ _ _ h => h) (by rfl) (unhide HS2) ?_
          simp only [Act.put, List.setIfInBounds_toArray, List.set_cons_zero, List.set_cons_succ]
          refine wpAnyL_skip 19 36 [20, 21, 22, 28, 29] rfl rfl (by kernel_rfl) (by kernel_rfl) (by kernel_rfl) (by kernel_rfl) (by kernel_rfl) (fun _ _ _ h => h) (by rfl) (unhide HS2) ?_
          simp only [Act.put, List.setIfInBounds_toArray, List.set_cons_zero, List.set_cons_succ]
          refine wpAnyL_skip 20 37 [21, 22, 28, 29] rfl rfl (by kernel_rfl) (by kernel_rfl) (by kernel_rfl) (by kernel_rfl) (by kernel_rfl) (fun _ _ _ h => h) (by rfl) (unhide HS2) ?_
          simp only [Act.put, List.setIfInBounds_toArray, List.set_cons_zero, List.set_cons_succ]
          refine wpAnyL_skip 21 38 [22, 28, 29] rfl rfl (by kernel_rfl) (by kernel_rfl) (by kernel_rfl) (by kernel_rfl) (by kernel_rfl) (fun _ _ _ h => h) (by rfl) (unhide HS2) ?_
          simp only [Act.put, List.setIfInBounds_toArray, List.set_cons_zero, List.set_cons_succ]
          refine wpAnyL_skip 22 39 [28, 29] rfl rfl (by kernel_rfl) (by kernel_rfl) (by kernel_rfl) (by kernel_rfl) (by kernel_rfl) (fun _ _ _ h => h) (by rfl) (unhide HS2) ?_
          simp only [Act.put, List.setIfInBounds_toArray, List.set_cons_zero, List.set_cons_succ]
          refine wpAnyL_skip 23 40 [24, 25, 26, 27, 28, 29] rfl rfl (by kernel_rfl) (by kernel_rfl) (by kernel_rfl) (by kernel_rfl) (by kernel_rfl) (fun _ _ _ h => h) (by rfl) (unhide HS2) ?_
          simp only [Act.put, List.setIfInBounds_toArray, List.set_cons_zero, List.set_cons_succ]
          refine wpAnyL_skip 24 41 [25, 26, 27, 28, 29] rfl rfl (by kernel_rfl) (by kernel_rfl) (by kernel_rfl) (by kernel_rfl) (by kernel_rfl) (fun _ _ _ h => h) (by rfl) (unhide HS2) ?_
          simp only [Act.put, List.setIfInBounds_toArray, List.set_cons_zero, List.set_cons_succ]
          refine wpAnyL_skip 25 42 [26, 27, 28, 29] rfl rfl (by kernel_rfl) (by kernel_rfl) (by kernel_rfl) (by kernel_rfl) (by kernel_rfl) (fun _ _ _ h => h) (by rfl) (unhide HS2) ?_
          simp only [Act.put, List.setIfInBounds_toArray, List.set_cons_zero, List.set_cons_succ]
          refine wpAnyL_skip 26 43 [27, 28, 29] rfl rfl (by kernel_rfl) (by kernel_rfl) (by kernel_rfl) (by kernel_rfl) (by kernel_rfl) (fun _ _ _ h => h) (by rfl) (unhide HS2) ?_
          simp only [Act.put, List.setIfInBounds_toArray, List.set_cons_zero, List.set_cons_succ]
          refine wpAnyL_skip 27 44 [28, 29] rfl rfl (by kernel_rfl) (by kernel_rfl) (by kernel_rfl) (by kernel_rfl) (by kernel_rfl) (fun _ _ _ h => h) (by rfl) (unhide HS2) ?_
          simp only [Act.put, List.setIfInBounds_toArray, List.set_cons_zero, List.set_cons_succ]
          refine wpAnyL_skip 28 45 [29] rfl rfl (by kernel_rfl) (by kernel_rfl) (by kernel_rfl) (by kernel_rfl) (by kernel_rfl) (fun _ _ _ h => h) (by rfl) (unhide HS2) ?_
          simp only [Act.put, List.setIfInBounds_toArray, List.set_cons_zero, List.set_cons_succ]
          refine wpAnyL_take 29 46 (.bool false) [] rfl rfl (by kernel_rfl) (by kernel_rfl) (by kernel_rfl) (by kernel_rfl) (by kernel_rfl) (fun _ _ _ h => h) (by rfl) (fun _ _ => by go_simp) (unhide HS2) ?_
          simp only [Act.put, List.setIfInBounds_toArray, List.set_cons_zero, List.set_cons_succ]
          refine wpAnyL_one (i := 30) (by kernel_rfl) rfl (by rfl) fun K hK => ?_
          refine wp_val (.bool false) (by go_simp) (some 47) (by rfl) ?_
          refine hK _ _ (fun _ => unhide HS2) ?_
          clear hK K
          simp only [Act.put, List.setIfInBounds_toArray, List.set_cons_zero, List.set_cons_succ]
          refine wpAnyL_done (by kernel_rfl) ?_ _
          have HSE := HS2
          clear HS2
          go_wp2_with fail
          go_meet
          exact ⟨false, rfl, fun _ => unhide HF, unhide HSE⟩
      · rw [Bool.not_eq_true] at h2
        rw [h2] at HL2
        clear h1 h2
        refine wp_region_last (fun G => Below u.heap.size u G) 30 hmix (belowDrew (unhide HB1)) fun hS => ?_
        have HS0 := hide hS
        clear hS
        generalize W1.drew = X0 at HS0 ⊢
        refine wpAnyL_take 0 17 (.slice ao n c) [1, 3, 5, 8] rfl rfl (by kernel_rfl) (by kernel_rfl) (by kernel_rfl) (by kernel_rfl) (by kernel_rfl) (fun _ _ _ h => h) (by rfl) (fun _ _ => by go_simp) (unhide HS0) ?_
        simp only [Act.put, List.setIfInBounds_toArray, List.set_cons_zero, List.set_cons_succ]
        refine wpAnyL_one (i := 1) (by kernel_rfl) rfl (by rfl) fun K hK => ?_
        refine wp_call_fn 50 _ _ (by rfl) #[.slice ao n c] (by with_unfolding_all rfl) entQL (some 18) (by rfl) _ (asV (unhide HL1 X0 (unhide HS0))) ?_
        rintro _ X1 ⟨rfl, hb⟩
        have HS1 : Hid (Below u.heap.size u X1) := Below.step (unhide HS0) hb
        clear hb HS0
        refine hK _ _ (fun _ => unhide HS1) ?_
        clear hK K
        simp only [Act.put, List.setIfInBounds_toArray, List.set_cons_zero, List.set_cons_succ]
        refine wpAnyL_take 2 19 (.bool false) [3, 5, 8] rfl rfl (by kernel_rfl) (by kernel_rfl) (by kernel_rfl) (by kernel_rfl) (by kernel_rfl) (fun _ _ _ h => h) (by rfl) (fun _ _ => by go_simp) (unhide HS1) ?_
        simp only [Act.put, List.setIfInBounds_toArray, List.set_cons_zero, List.set_cons_succ]
        refine wpAnyL_take 3 20 (.bool false) [5, 8] rfl rfl (by kernel_rfl) (by kernel_rfl) (by kernel_rfl) (by kernel_rfl) (by kernel_rfl) (fun _ _ _ h => h) (by rfl) (fun _ _ => by go_simp) (unhide HS1) ?_
        simp only [Act.put, List.setIfInBounds_toArray, List.set_cons_zero, List.set_cons_succ]
        refine wpAnyL_take 4 21 (.slice bo m d) [5, 8] rfl rfl (by kernel_rfl) (by kernel_rfl) (by kernel_rfl) (by kernel_rfl) (by kernel_rfl) (fun _ _ _ h => h) (by rfl) (fun _ _ => by go_simp) (unhide HS1) ?_
        simp only [Act.put, List.setIfInBounds_toArray, List.set_cons_zero, List.set_cons_succ]
        refine wpAnyL_one (i := 5) (by kernel_rfl) rfl (by rfl) fun K hK => ?_
        refine wp_call_fn 50 _ _ (by rfl) #[.slice bo m d] (by with_unfolding_all rfl) entQL (some 22) (by rfl) _ (asV (unhide HL2 X1 (unhide HS1))) ?_
        rintro _ X2 ⟨rfl, hb⟩
        have HS2 : Hid (Below u.heap.size u X2) := Below.step (unhide HS1) hb
        clear hb HS1
        refine hK _ _ (fun _ => unhide HS2) ?_
        clear hK K
        simp only [Act.put, List.setIfInBounds_toArray, List.set_cons_zero, List.set_cons_succ]
        refine wpAnyL_take 6 23 (.bool true) [7, 8] rfl rfl (by kernel_rfl) (by kernel_rfl) (by kernel_rfl) (by kernel_rfl) (by kernel_rfl) (fun _ _ _ h => h) (by rfl) (fun _ _ => by go_simp) (unhide HS2) ?_
        simp only [Act.put, List.setIfInBounds_toArray, List.set_cons_zero, List.set_cons_succ]
        refine wpAnyL_take 7 24 (.bool true) [8] rfl rfl (by kernel_rfl) (by kernel_rfl) (by kernel_rfl) (by kernel_rfl) (by kernel_rfl) (fun _ _ _ h => h) (by rfl) (fun _ _ => by go_simp) (unhide HS2) ?_
        simp only [Act.put, List.setIfInBounds_toArray, List.set_cons_zero, List.set_cons_succ]
        refine wpAnyL_take 8 25 (.bool true) [] rfl rfl (by kernel_rfl) (by kernel_rfl) (by kernel_rfl) (by kernel_rfl) (by kernel_rfl) (fun _ _ _ h => h) (by rfl) (fun _ _ => by go_simp) (unhide HS2) ?_
        simp only [Act.put, List.setIfInBounds_toArray, List.set_cons_zero, List.set_cons_succ]
        refine wpAnyL_skip 9 26 [10, 11, 12, 17, 29] rfl rfl (by kernel_rfl) (by kernel_rfl) (by kernel_rfl) (by kernel_rfl) (by kernel_rfl) (fun _ _ _ h => h) (by rfl) (unhide HS2) ?_
        simp only [Act.put, List.setIfInBounds_toArray, List.set_cons_zero, List.set_cons_succ]
        refine wpAnyL_skip 10 27 [11, 12, 17, 29] rfl rfl (by kernel_rfl) (by kernel_rfl) (by kernel_rfl) (by kernel_rfl) (by kernel_rfl) (fun _ _ _ h => h) (by rfl) (unhide HS2) ?_
        simp only [Act.put, List.setIfInBounds_toArray, List.set_cons_zero, List.set_cons_succ]
        refine wpAnyL_skip 11 28 [12, 17, 29] rfl rfl (by kernel_rfl) (by kernel_rfl) (by kernel_rfl) (by kernel_rfl) (by kernel_rfl) (fun _ _ _ h => h) (by rfl) (unhide HS2) ?_
        simp only [Act.put, List.setIfInBounds_toArray, List.set_cons_zero, List.set_cons_succ]
        refine wpAnyL_skip 12 29 [17, 29] rfl rfl (by kernel_rfl) (by kernel_rfl) (by kernel_rfl) (by kernel_rfl) (by kernel_rfl) (fun _ _ _ h => h) (by rfl) (unhide HS2) ?_
        simp only [Act.put, List.setIfInBounds_toArray, List.set_cons_zero, List.set_cons_succ]
        refine wpAnyL_skip 13 30 [14, 15, 16, 17, 29] rfl rfl (by kernel_rfl) (by kernel_rfl) (by kernel_rfl) (by kernel_rfl) (by kernel_rfl) (fun _ _ _ h => h) (by rfl) (unhide HS2) ?_
        simp only [Act.put, List.setIfInBounds_toArray, List.set_cons_zero, List.set_cons_succ]
        refine wpAnyL_skip 14 31 [15, 16, 17, 29] rfl rfl (by kernel_rfl) (by kernel_rfl) (by kernel_rfl) (by kernel_rfl) (by kernel_rfl) (fun _ _ _ h => h) (by rfl) (unhide HS2) ?_
        simp only [Act.put, List.setIfInBounds_toArray, List.set_cons_zero, List.set_cons_succ]
        refine wpAnyL_skip 15 32 [16, 17, 29] rfl rfl (by kernel_rfl) (by kernel_rfl) (by kernel_rfl) (by kernel_rfl) (by kernel_rfl) (fun _ _ _ h => h) (by rfl) (unhide HS2) ?_
        simp only [Act.put, List.setIfInBounds_toArray, List.set_cons_zero, List.set_cons_succ]
        refine wpAnyL_skip 16 33 [17, 29] rfl rfl (by kernel_rfl) (by kernel_rfl) (by kernel_rfl) (by kernel_rfl) (by kernel_rfl) (fun _ _ _ h => h) (by rfl) (unhide HS2) ?_
        simp only [Act.put, List.setIfInBounds_toArray, List.set_cons_zero, List.set_cons_succ]
        refine wpAnyL_skip 17 34 [29] rfl rfl (by kernel_rfl) (by kernel_rfl) (by kernel_rfl) (by kernel_rfl) (by kernel_rfl) (fun _ _ _ h => h) (by rfl) (unhide HS2) ?_
        simp only [Act.put, List.setIfInBounds_toArray, List.set_cons_zero, List.set_cons_succ]
        refine wpAnyL_skip 18 35 [19, 20, 21, 22, 28, 29] rfl rfl (by kernel_rfl) (by kernel_rfl) (by kernel_rfl) (by kernel_rfl) (by kernel_rfl) (fun _ _ _ h => h) (by rfl) (unhide HS2) ?_
        simp only [Act.put, List.setIfInBounds_toArray, List.set_cons_zero, List.set_cons_succ]
        refine wpAnyL_skip 19 36 [20, 21, 22, 28, 29] rfl rfl (by kernel_rfl) (by kernel_rfl) (by kernel_rfl) (by kernel_rfl) (by kernel_rfl) (fun _ _ _ h => h) (by rfl) (unhide HS2) ?_
        simp only [Act.put, List.setIfInBounds_toArray, List.set_cons_zero, List.set_cons_succ]
        refine wpAnyL_skip 20 37 [21, 22, 28, 29] rfl rfl (by kernel_rfl) (by kernel_rfl) (by kernel_rfl) (by kernel_rfl) (by kernel_rfl) (fun _ _ _ h => h) (by rfl) (unhide HS2) ?_
        simp only [Act.put, List.setIfInBounds_toArray, List.set_cons_zero, List.set_cons_succ]
        refine wpAnyL_skip 21 38 [22, 28, 29] rfl rfl (by kernel_rfl) (by kernel_rfl) (by kernel_rfl) (by kernel_rfl) (by kernel_rfl) (fun _ _ _ h => h) (by rfl) (unhide HS2) ?_
        simp only [Act.put, List.setIfInBounds_toArray, List.set_cons_zero, List.set_cons_succ]
        refine wpAnyL_skip 22 39 [28, 29] rfl rfl (by kernel_rfl) (by kernel_rfl) (by kernel_rfl) (by kernel_rfl) (by kernel_rfl) (fun _ _ _ h => h) (by rfl) (unhide HS2) ?_
        simp only [Act.put, List.setIfInBounds_toArray, List.set_cons_zero, List.set_cons_succ]
        refine wpAnyL_skip 23 40 [24, 25, 26, 27, 28, 29] rfl rfl (by kernel_rfl) (by kernel_rfl) (by kernel_rfl) (by kernel_rfl) (by kernel_rfl) (fun _ _ _ h => h) (by rfl) (unhide HS2) ?_
        simp only [Act.put, List.setIfInBounds_toArray, List.set_cons_zero, List.set_cons_succ]
        refine wpAnyL_skip 24 41 [25, 26, 27, 28, 29] rfl rfl (by kernel_rfl) (by kernel_rfl) (by kernel_rfl) (by kernel_rfl) (by kernel_rfl) (fun _ _ _ h => h) (by rfl) (unhide HS2) ?_
        simp only [Act.put, List.setIfInBounds_toArray, List.set_cons_zero, List.set_cons_succ]
        refine wpAnyL_skip 25 42 [26, 27, 28, 29] rfl rfl (by kernel_rfl) (by kernel_rfl) (by kernel_rfl) (by kernel_rfl) (by kernel_rfl) (fun _ _ _ h => h) (by rfl) (unhide HS2) ?_
        simp only [Act.put, List.setIfInBounds_toArray, List.set_cons_zero, List.set_cons_succ]
        refine wpAnyL_skip 26 43 [27, 28, 29] rfl rfl (by kernel_rfl) (by kernel_rfl) (by kernel_rfl) (by kernel_rfl) (by kernel_rfl) (fun _ _ _ h => h) (by rfl) (unhide HS2) ?_
        simp only [Act.put, List.setIfInBounds_toArray, List.set_cons_zero, List.set_cons_succ]
        refine wpAnyL_skip 27 44 [28, 29] rfl rfl (by kernel_rfl) (by kernel_rfl) (by kernel_rfl) (by kernel_rfl) (by kernel_rfl) (fun _ _ _ h => h) (by rfl) (unhide HS2) ?_
        simp only [Act.put, List.setIfInBounds_toArray, List.set_cons_zero, List.set_cons_succ]
        refine wpAnyL_skip 28 45 [29] rfl rfl (by kernel_rfl) (by kernel_rfl) (by kernel_rfl) (by kernel_rfl) (by kernel_rfl) (fun _ _ _ h => h) (by rfl) (unhide HS2) ?_
        simp only [Act.put, List.setIfInBounds_toArray, List.set_cons_zero, List.set_cons_succ]
        refine wpAnyL_skip 29 46 [] rfl rfl (by kernel_rfl) (by kernel_rfl) (by kernel_rfl) (by kernel_rfl) (by kernel_rfl) (fun _ _ _ h => h) (by rfl) (unhide HS2) ?_
        simp only [Act.put, List.setIfInBounds_toArray, List.set_cons_zero, List.set_cons_succ]
        refine wpAnyL_one (i := 30) (by kernel_rfl) rfl (by rfl) fun K hK => ?_
        refine wp_val (.bool true) (by go_simp) (some 47) (by rfl) ?_
        refine hK _ _ (fun _ => unhide HS2) ?_
        clear hK K
        simp only [Act.put, List.setIfInBounds_toArray, List.set_cons_zero, List.set_cons_succ]
        refine wpAnyL_done (by kernel_rfl) ?_ _
        have HSE := HS2
        clear HS2
        go_wp2_with fail
        go_meet
        exact ⟨true, rfl, fun h => (by cases h), unhide HSE⟩
    · rw [Bool.not_eq_true] at h1
      rw [h1] at HL1
      clear h1
      refine wp_region_last (fun G => Below u.heap.size u G) 30 hmix (belowDrew (unhide HB1)) fun hS => ?_
      have HS0 := hide hS
      clear hS
      generalize W1.drew = X0 at HS0 ⊢
      refine wpAnyL_take 0 17 (.slice ao n c) [1, 3, 5, 8] rfl rfl (by kernel_rfl) (by kernel_rfl) (by kernel_rfl) (by kernel_rfl) (by kernel_rfl) (fun _ _ _ h => h) (by rfl) (fun _ _ => by go_simp) (unhide HS0) ?_
      simp only [Act.put, List.setIfInBounds_toArray, List.set_cons_zero, List.set_cons_succ]
      refine wpAnyL_one (i := 1) (by kernel_rfl) rfl (by rfl) fun K hK => ?_
      refine wp_call_fn 50 _ _ (by rfl) #[.slice ao n c] (by with_unfolding_all rfl) entQL (some 18) (by rfl) _ (asV (unhide HL1 X0 (unhide HS0))) ?_
      rintro _ X1 ⟨rfl, hb⟩
      have HS1 : Hid (Below u.heap.size u X1) := Below.step (unhide HS0) hb
      clear hb HS0
      refine hK _ _ (fun _ => unhide HS1) ?_
      clear hK K
      simp only [Act.put, List.setIfInBounds_toArray, List.set_cons_zero, List.set_cons_succ]
      refine wpAnyL_take 2 19 (.bool true) [3, 5, 8] rfl rfl (by kernel_rfl) (by kernel_rfl) (by kernel_rfl) (by kernel_rfl) (by kernel_rfl) (fun _ _ _ h => h) (by rfl) (fun _ _ => by go_simp) (unhide HS1) ?_
      simp only [Act.put, List.setIfInBounds_toArray, List.set_cons_zero, List.set_cons_succ]
      refine wpAnyL_take 3 20 (.bool true) [5, 8] rfl rfl (by kernel_rfl) (by kernel_rfl) (by kernel_rfl) (by kernel_rfl) (by kernel_rfl) (fun _ _ _ h => h) (by rfl) (fun _ _ => by go_simp) (unhide HS1) ?_
      simp only [Act.put, List.setIfInBounds_toArray, List.set_cons_zero, List.set_cons_succ]
      refine wpAnyL_skip 4 21 [5, 8] rfl rfl (by kernel_rfl) (by kernel_rfl) (by kernel_rfl) (by kernel_rfl) (by kernel_rfl) (fun _ _ _ h => h) (by rfl) (unhide HS1) ?_
      simp only [Act.put, List.setIfInBounds_toArray, List.set_cons_zero, List.set_cons_succ]
      refine wpAnyL_skip 5 22 [8] rfl rfl (by kernel_rfl) (by kernel_rfl) (by kernel_rfl) (by kernel_rfl) (by kernel_rfl) (fun _ _ _ h => h) (by rfl) (unhide HS1) ?_
      simp only [Act.put, List.setIfInBounds_toArray, List.set_cons_zero, List.set_cons_succ]
      refine wpAnyL_skip 6 23 [7, 8] rfl rfl (by kernel_rfl) (by kernel_rfl) (by kernel_rfl) (by kernel_rfl) (by kernel_rfl) (fun _ _ _ h => h) (by rfl) (unhide HS1) ?_
      simp only [Act.put, List.setIfInBounds_toArray, List.set_cons_zero, List.set_cons_succ]
      refine wpAnyL_take 7 24 (.bool true) [8] rfl rfl (by kernel_rfl) (by kernel_rfl) (by kernel_rfl) (by kernel_rfl) (by kernel_rfl) (fun _ _ _ h => h) (by rfl) (fun _ _ => by go_simp) (unhide HS1) ?_
      simp only [Act.put, List.setIfInBounds_toArray, List.set_cons_zero, List.set_cons_succ]
      refine wpAnyL_take 8 25 (.bool true) [] rfl rfl (by kernel_rfl) (by kernel_rfl) (by kernel_rfl) (by kernel_rfl) (by kernel_rfl) (fun _ _ _ h => h) (by rfl) (fun _ _ => by go_simp) (unhide HS1) ?_
      simp only [Act.put, List.setIfInBounds_toArray, List.set_cons_zero, List.set_cons_succ]
      refine wpAnyL_skip 9 26 [10, 11, 12, 17, 29] rfl rfl (by kernel_rfl) (by kernel_rfl) (by kernel_rfl) (by kernel_rfl) (by kernel_rfl) (fun _ _ _ h => h) (by rfl) (unhide HS1) ?_
      simp only [Act.put, List.setIfInBounds_toArray, List.set_cons_zero, List.set_cons_succ]
      refine wpAnyL_skip 10 27 [11, 12, 17, 29] rfl rfl (by kernel_rfl) (by kernel_rfl) (by kernel_rfl) (by kernel_rfl) (by kernel_rfl) (fun _ _ _ h => h) (by rfl) (unhide HS1) ?_
      simp only [Act.put, List.setIfInBounds_toArray, List.set_cons_zero, List.set_cons_succ]
      refine wpAnyL_skip 11 28 [12, 17, 29] rfl rfl (by kernel_rfl) (by kernel_rfl) (by kernel_rfl) (by kernel_rfl) (by kernel_rfl) (fun _ _ _ h => h) (by rfl) (unhide HS1) ?_
      simp only [Act.put, List.setIfInBounds_toArray, List.set_cons_zero, List.set_cons_succ]
      refine wpAnyL_skip 12 29 [17, 29] rfl rfl (by kernel_rfl) (by kernel_rfl) (by kernel_rfl) (by kernel_rfl) (by kernel_rfl) (fun _ _ _ h => h) (by rfl) (unhide HS1) ?_
      simp only [Act.put, List.setIfInBounds_toArray, List.set_cons_zero, List.set_cons_succ]
      refine wpAnyL_skip 13 30 [14, 15, 16, 17, 29] rfl rfl (by kernel_rfl) (by kernel_rfl) (by kernel_rfl) (by kernel_rfl) (by kernel_rfl) (fun _ _ _ h => h) (by rfl) (unhide HS1) ?_
      simp only [Act.put, List.setIfInBounds_toArray, List.set_cons_zero, List.set_cons_succ]
      refine wpAnyL_skip 14 31 [15, 16, 17, 29] rfl rfl (by kernel_rfl) (by kernel_rfl) (by kernel_rfl) (by kernel_rfl) (by kernel_rfl) (fun _ _ _ h => h) (by rfl) (unhide HS1) ?_
      simp only [Act.put, List.setIfInBounds_toArray, List.set_cons_zero, List.set_cons_succ]
      refine wpAnyL_skip 15 32 [16, 17, 29] rfl rfl (by kernel_rfl) (by kernel_rfl) (by kernel_rfl) (by kernel_rfl) (by kernel_rfl) (fun _ _ _ h => h) (by rfl) (unhide HS1) ?_
      simp only [Act.put, List.setIfInBounds_toArray, List.set_cons_zero, List.set_cons_succ]
      refine wpAnyL_skip 16 33 [17, 29] rfl rfl (by kernel_rfl) (by kernel_rfl) (by kernel_rfl) (by kernel_rfl) (by kernel_rfl) (fun _ _ _ h => h) (by rfl) (unhide HS1) ?_
      simp only [Act.put, List.setIfInBounds_toArray, List.set_cons_zero, List.set_cons_succ]
      refine wpAnyL_skip 17 34 [29] rfl rfl (by kernel_rfl) (by kernel_rfl) (by kernel_rfl) (by kernel_rfl) (by kernel_rfl) (fun _ _ _ h => h) (by rfl) (unhide HS1) ?_
      simp only [Act.put, List.setIfInBounds_toArray, List.set_cons_zero, List.set_cons_succ]
      refine wpAnyL_skip 18 35 [19, 20, 21, 22, 28, 29] rfl rfl (by kernel_rfl) (by kernel_rfl) (by kernel_rfl) (by kernel_rfl) (by kernel_rfl) (fun _ _ _ h => h) (by rfl) (unhide HS1) ?_
      simp only [Act.put, List.setIfInBounds_toArray, List.set_cons_zero, List.set_cons_succ]
      refine wpAnyL_skip 19 36 [20, 21, 22, 28, 29] rfl rfl (by kernel_rfl) (by kernel_rfl) (by kernel_rfl) (by kernel_rfl) (by kernel_rfl) (fun _ _ _ h => h) (by rfl) (unhide HS1) ?_
      simp only [Act.put, List.setIfInBounds_toArray, List.set_cons_zero, List.set_cons_succ]
      refine wpAnyL_skip 20 37 [21, 22, 28, 29] rfl rfl (by kernel_rfl) (by kernel_rfl) (by kernel_rfl) (by kernel_rfl) (by kernel_rfl) (fun _ _ _ h => h) (by rfl) (unhide HS1) ?_
      simp only [Act.put, List.setIfInBounds_toArray, List.set_cons_zero, List.set_cons_succ]
      refine wpAnyL_skip 21 38 [22, 28, 29] rfl rfl (by kernel_rfl) (by kernel_rfl) (by kernel_rfl) (by kernel_rfl) (by kernel_rfl) (fun _ _ _ h => h) (by rfl) (unhide HS1) ?_
      simp only [Act.put, List.setIfInBounds_toArray, List.set_cons_zero, List.set_cons_succ]
      refine wpAnyL_skip 22 39 [28, 29] rfl rfl (by kernel_rfl) (by kernel_rfl) (by kernel_rfl) (by kernel_rfl) (by kernel_rfl) (fun _ _ _ h => h) (by rfl) (unhide HS1) ?_
      simp only [Act.put, List.setIfInBounds_toArray, List.set_cons_zero, List.set_cons_succ]
      refine wpAnyL_skip 23 40 [24, 25, 26, 27, 28, 29] rfl rfl (by kernel_rfl) (by kernel_rfl) (by kernel_rfl) (by kernel_rfl) (by kernel_rfl) (fun _ _ _ h => h) (by rfl) (unhide HS1) ?_
      simp only [Act.put, List.setIfInBounds_toArray, List.set_cons_zero, List.set_cons_succ]
      refine wpAnyL_skip 24 41 [25, 26, 27, 28, 29] rfl rfl (by kernel_rfl) (by kernel_rfl) (by kernel_rfl) (by kernel_rfl) (by kernel_rfl) (fun _ _ _ h => h) (by rfl) (unhide HS1) ?_
      simp only [Act.put, List.setIfInBounds_toArray, List.set_cons_zero, List.set_cons_succ]
      refine wpAnyL_skip 25 42 [26, 27, 28, 29] rfl rfl (by kernel_rfl) (by kernel_rfl) (by kernel_rfl) (by kernel_rfl) (by kernel_rfl) (fun _ _ _ h => h) (by rfl) (unhide HS1) ?_
      simp only [Act.put, List.setIfInBounds_toArray, List.set_cons_zero, List.set_cons_succ]
      refine wpAnyL_skip 26 43 [27, 28, 29] rfl rfl (by kernel_rfl) (by kernel_rfl) (by kernel_rfl) (by kernel_rfl) (by kernel_rfl) (fun _ _ _ h => h) (by rfl) (unhide HS1) ?_
      simp only [Act.put, List.setIfInBounds_toArray, List.set_cons_zero, List.set_cons_succ]
      refine wpAnyL_skip 27 44 [28, 29] rfl rfl (by kernel_rfl) (by kernel_rfl) (by kernel_rfl) (by kernel_rfl) (by kernel_rfl) (fun _ _ _ h => h) (by rfl) (unhide HS1) ?_
      simp only [Act.put, List.setIfInBounds_toArray, List.set_cons_zero, List.set_cons_succ]
      refine wpAnyL_skip 28 45 [29] rfl rfl (by kernel_rfl) (by kernel_rfl) (by kernel_rfl) (by kernel_rfl) (by kernel_rfl) (fun _ _ _ h => h) (by rfl) (unhide HS1) ?_
      simp only [Act.put, List.setIfInBounds_toArray, List.set_cons_zero, List.set_cons_succ]
      refine wpAnyL_skip 29 46 [] rfl rfl (by kernel_rfl) (by kernel_rfl) (by kernel_rfl) (by kernel_rfl) (by kernel_rfl) (fun _ _ _ h => h) (by rfl) (unhide HS1) ?_
      simp only [Act.put, List.setIfInBounds_toArray, List.set_cons_zero, List.set_cons_succ]
      refine wpAnyL_one (i := 30) (by kernel_rfl) rfl (by rfl) fun K hK => ?_
      refine wp_val (.bool true) (by go_simp) (some 47) (by rfl) ?_
      refine hK _ _ (fun _ => unhide HS1) ?_
      clear hK K
      simp only [Act.put, List.setIfInBounds_toArray, List.set_cons_zero, List.set_cons_succ]
      refine wpAnyL_done (by kernel_rfl) ?_ _
      have HSE := HS1
      clear HS1
      go_wp2_with fail
      go_meet
      exact ⟨true, rfl, fun h => (by cases h), unhide HSE⟩
  case rest =>
    obtain ⟨p, rfl, hp, HBC⟩ := hcut
    clear HL1 HL2 HCA HCB HAW HB1
    cases p
    · obtain ⟨wd, o1, o2⟩ := hp rfl
      have HO1 := hide o1
      have HO2 := hide o2
      obtain ⟨D, hD⟩ : ∃ D, D = difs (mgE a b) := ⟨_, rfl⟩
      have HDR : Hid (difV a b = (D, 0)) := by show difV a b = _; unfold difV; rw [if_pos ⟨o1.li, o2.li⟩, hD]
      have HDS : Hid (difV b a = (D.map dsw, 0)) := by show difV b a = _; unfold difV; rw [if_pos ⟨o2.li, o1.li⟩, mrg_swp, difs_swp, hD]; rfl
      have HDB : Hid (D.length ≤ 2097152) := by
        show D.length ≤ _
        have h1 : D.length ≤ a.length + b.length := by rw [hD]; exact Nat.le_trans (difs_le _) (mrg_len _ _)
        have := unhide HNN; have := unhide HMM; have := unhide HNA; have := unhide HNB
        omega
      have HDL : Hid (D.length ≤ 4398046511000) := Nat.le_trans (unhide HDB) (by decide)
      have HZZ : Hid (∀ q : Nat, q = D.length → ((q : Int) == 0) = decide (a = b)) := fun q hq => by
        by_cases he : a = b
        · have h1 : D = [] := by rw [hD]; exact (difs_nil o1 o2).2 he
          rw [decide_eq_true he, hq, h1]; rfl
        · have h1 : D ≠ [] := fun h => he ((difs_nil o1 o2).1 (by rw [← hD]; exact h))
          have h2 : 0 < D.length := List.length_pos_iff.2 h1
          rw [decide_eq_false he]
          exact beq_false_of_ne (by omega)
      have HRS : Hid (D.Pairwise (fun c d => lt c.1 d.1 = true)) := by rw [hD]; exact difs_rise (mrg_rise a b o1.pair o2.pair)
      have HNX : Hid (∀ (i : Nat) (nl : List En) (e : Df), PS a b i nl → D[i]? = some e → hasV a e.1 = e.2.1 ∧ hasV b e.1 = e.2.2 ∧ e.2.1 ≠ e.2.2 ∧ ∃ nl', PS a b (i + 1) nl' ∧ ((e.2.2 = eB ∧ takV nl e.1 = (nl', true)) ∨ (e.2.2 ≠ eB ∧ putV nl (e.1, e.2.2) = (nl', 0)))) := fun i nl e h hi => h.next o1 o2 (by rw [← hD]; exact hi)
      have HDN : Hid (∀ nl, PS a b D.length nl → nl = b) := fun nl h => PS.done o1 o2 (by rw [← hD]; exact h)
      obtain ⟨z, hz⟩ : ∃ z, z = decide (a = b) := ⟨_, rfl⟩
      rw [← hz] at HZZ
      have HQS : Hid (∀ G : World, El G a ao n c → El G b bo m d → Calls Try.prog 37 #[.slice ao n c, .slice bo m d] G fun e u' => e = .returned (.bool z) ∧ Below G.heap.size G u') := fun G h1 h2 => by rw [hz]; exact qSame a b ao bo n m c d G h1 h2
      have hzn : (z != z) = false := by simp
      clear hD hp o1 o2 hz
      go_wp2_with (first
        | (at_builtin; (with_reducible refine wpList_putE (by rfl) (.tmp 49) (.tmp 50) (by rfl) (some 51) (by rfl) wc.heap.size [] a 0 n rfl (unhide HNA) (some ⟨wc.heap.size, 0, none⟩) ao 0 c (by with_unfolding_all rfl) (by with_unfolding_all rfl) (Own.empty wc _ (Nat.le_refl _)) (atNew (unhide HA) (unhide HBC) _) (unhide HA).l0 (szNew wc _) ?_); intro x2 n2 c2 W2 HP2; simp only [Act.put, List.setIfInBounds_toArray, List.set_cons_zero, List.set_cons_succ]; have HB2 : Hid (Below u.heap.size u W2) := Below.step (unhide HBC) ((unhide HP2).below0); have hn2 : n = n2 := ((unhide HP2).len.trans (unhide HNA).symm).symm; subst hn2; have HN2 : Hid (El W2 a x2 n c2) := ⟨(unhide HP2).own.at (unhide HA).many, unhide HNA⟩)
        | (at_builtin; (with_reducible refine wpList_putE (by rfl) (.tmp 52) (.tmp 53) (by rfl) (some 54) (by rfl) W2.heap.size [] b 0 m rfl (unhide HNB) (some ⟨W2.heap.size, 0, none⟩) bo 0 d (by with_unfolding_all rfl) (by with_unfolding_all rfl) (Own.empty W2 _ (Nat.le_refl _)) (atNew (unhide HB) (unhide HB2) _) (unhide HB).l0 (szNew W2 _) ?_); intro x3 n3 c3 W3 HP3; simp only [Act.put, List.setIfInBounds_toArray, List.set_cons_zero, List.set_cons_succ]; have HB3 : Hid (Below u.heap.size u W3) := Below.step (unhide HB2) ((unhide HP3).below0); have hn3 : m = n3 := ((unhide HP3).len.trans (unhide HNB).symm).symm; subst hn3; have HN3 : Hid (El W3 b x3 m c3) := ⟨(unhide HP3).own.at (unhide HB).many, unhide HNB⟩; have HN2b := hide ((unhide HN2).below ((unhide HP3).below0)); have HPA := hide (sDiff a b x2 x3 n m c2 c3 W3 (unhide HN2b) (unhide HN3) (unhide HNM) D 0 (unhide HDR)))
        | (go_at_call 29; refine (unhide HPA).mono ?_; rintro e W4 ⟨lo, lk, lc, rfl, hk, ho, hb⟩; have HB4 : Hid (Below u.heap.size u W4) := Below.step (unhide HB3) hb; have HLD : Hid (Dl W4 D lo lk lc) := ⟨ho.at (unhide HDL), hk⟩; clear hb ho hk HPA)
        | (at_builtin; (with_reducible refine wpList_putE (by rfl) (.tmp 59) (.tmp 60) (by rfl) (some 61) (by rfl) W4.heap.size [] b 0 m rfl (unhide HNB) (some ⟨W4.heap.size, 0, none⟩) bo 0 d (by with_unfolding_all rfl) (by with_unfolding_all rfl) (Own.empty W4 _ (Nat.le_refl _)) (atNew (unhide HB) (unhide HB4) _) (unhide HB).l0 (szNew W4 _) ?_); intro x5 n5 c5 W5 HP5; simp only [Act.put, List.setIfInBounds_toArray, List.set_cons_zero, List.set_cons_succ]; have HB5 : Hid (Below u.heap.size u W5) := Below.step (unhide HB4) ((unhide HP5).below0); have hn5 : m = n5 := ((unhide HP5).len.trans (unhide HNB).symm).symm; subst hn5; have HN5 : Hid (El W5 b x5 m c5) := ⟨(unhide HP5).own.at (unhide HB).many, unhide HNB⟩)
        | (at_builtin; (with_reducible refine wpList_putE (by rfl) (.tmp 62) (.tmp 63) (by rfl) (some 64) (by rfl) W5.heap.size [] a 0 n rfl (unhide HNA) (some ⟨W5.heap.size, 0, none⟩) ao 0 c (by with_unfolding_all rfl) (by with_unfolding_all rfl) (Own.empty W5 _ (Nat.le_refl _)) (atNew (unhide HA) (unhide HB5) _) (unhide HA).l0 (szNew W5 _) ?_); intro x6 n6 c6 W6 HP6; simp only [Act.put, List.setIfInBounds_toArray, List.set_cons_zero, List.set_cons_succ]; have HB6 : Hid (Below u.heap.size u W6) := Below.step (unhide HB5) ((unhide HP6).below0); have hn6 : n = n6 := ((unhide HP6).len.trans (unhide HNA).symm).symm; subst hn6; have HN6 : Hid (El W6 a x6 n c6) := ⟨(unhide HP6).own.at (unhide HA).many, unhide HNA⟩; have HN5b := hide ((unhide HN5).below ((unhide HP6).below0)); have H46 : Hid (Below W4.heap.size W4 W6) := Below.step ((unhide HP5).below0) ((unhide HP6).below0); have HPB := hide (sDiff b a x5 x6 m n c5 c6 W6 (unhide HN5b) (unhide HN6) (by have := unhide HNM; omega) (D.map dsw) 0 (unhide HDS)))
        | (go_at_call 29; refine (unhide HPB).mono ?_; rintro e W7 ⟨ko, kk, kc, rfl, hk, ho, hb⟩; have HB7 : Hid (Below u.heap.size u W7) := Below.step (unhide HB6) hb; have HL7 : Hid (Dl W7 D lo lk lc) := (unhide HLD).below (Below.step (unhide H46) hb); have HKL : Hid (Dl W7 (D.map dsw) ko kk kc) := ⟨ho.at (by rw [List.length_map]; exact unhide HDL), hk⟩; have hlk : kk = lk := (by rw [hk, List.length_map]; exact (unhide HLD).hn.symm); subst hlk; have HSM := hide (unhide HQS W7 ((unhide HA).below (unhide HB7)) ((unhide HB).below (unhide HB7))); have hzz := unhide HZZ kk (unhide HLD).hn; clear hb ho hk HPB HLD H46)
        | (go_at_call 37; refine (unhide HSM).mono ?_; rintro e W8 ⟨rfl, hb⟩; have HB8 : Hid (Below u.heap.size u W8) := Below.step (unhide HB7) hb; have HL8 := hide ((unhide HL7).below hb); have HK8 := hide ((unhide HKL).below hb); clear hb HSM HL7 HKL)
        | (at_builtin; (with_reducible refine wpList_putE (by rfl) (.tmp 90) (.tmp 91) (by rfl) (some 92) (by rfl) W8.heap.size [] a 0 n rfl (unhide HNA) (some ⟨W8.heap.size, 0, none⟩) ao 0 c (by with_unfolding_all rfl) (by with_unfolding_all rfl) (Own.empty W8 _ (Nat.le_refl _)) (atNew (unhide HA) (unhide HB8) _) (unhide HA).l0 (szNew W8 _) ?_); intro x9 n9 c9 W9 HP9; simp only [Act.put, List.setIfInBounds_toArray, List.set_cons_zero, List.set_cons_succ]; have HB9 : Hid (Below u.heap.size u W9) := Below.step (unhide HB8) ((unhide HP9).below0); have hn9 : n = n9 := ((unhide HP9).len.trans (unhide HNA).symm).symm; subst hn9; have HN9 : Hid (El W9 a x9 n c9) := ⟨(unhide HP9).own.at (unhide HA).many, unhide HNA⟩; have HL9 := hide ((unhide HL8).below ((unhide HP9).below0)); have HK9 := hide ((unhide HK8).below ((unhide HP9).below0)))
        | fail)
      have hkki : (kk : Int) ≤ 2097152 := by have h1 := (unhide HL9).hn; have h2 := unhide HDB; omega
      go_loopw [9, 10] (fun s9 s10 wr => ∃ (i nn cc : Nat) (xo : Option Addr) (nl : List En), i ≤ kk ∧ s10 = .int .i64 i ∧ s9 = .slice xo nn cc ∧ Hid (PS a b i nl) ∧ Hid (El wr nl xo nn cc) ∧ Hid (Below W9.heap.size W9 wr)) (fun _ s10 _ => kk - (intOf s10).toNat)
      case atStart => exact ⟨0, n, c9, x9, a, Nat.zero_le _, rfl, rfl, PS.zero a b, unhide HN9, Below.refl _ _⟩
      case round =>
        obtain ⟨i, nn, cc, xo, nl, hin, rfl, rfl, HPS, HE, HI⟩ := hrel
        by_cases hlt : i < kk
        · have hii : (i : Int) < (kk : Int) := by omega
          have hil : i < D.length := by rw [← (unhide HL9).hn]; exact hlt
          have hil2 : i < (D.map dsw).length := by rw [List.length_map]; exact hil
          obtain ⟨q1, q2, q3, nl', HPS', hq⟩ := unhide HNX i nl D[i] (unhide HPS) (List.getElem?_eq_getElem hil)
          replace HPS' := hide HPS'
          have HNL : Hid (nl'.length ≤ 4398046511000) := by
            have h1 := (unhide HPS').len
            have := unhide HNN; have := unhide HMM; have := unhide HNA; have := unhide HNB
            show nl'.length ≤ _; omega
          obtain ⟨gl, ol, hlo, z1, z2, z3⟩ := (unhide HL9).df hil
          obtain ⟨gk, ok, hko, z4, z5, z6⟩ := (unhide HK9).df hil2
          clear z1 z2 z3 z4 z5 z6
          have HCL : Hid (∀ G : World, Below W9.heap.size W9 G → G.cell? ⟨gl, ol + i * 3, none⟩ = some (.string D[i].1) ∧ G.cell? ⟨gl, ol + i * 3 + 1, none⟩ = some (.string D[i].2.1) ∧ G.cell? ⟨gl, ol + i * 3 + 2, none⟩ = some (.string D[i].2.2)) := fun G hG => by
            obtain ⟨g', o', e', d1⟩ := ((unhide HL9).below hG).df hil
            rw [hlo] at e'; cases e'; exact d1
          have HCK : Hid (∀ G : World, Below W9.heap.size W9 G → G.cell? ⟨gk, ok + i * 3, none⟩ = some (.string D[i].1) ∧ G.cell? ⟨gk, ok + i * 3 + 1, none⟩ = some (.string D[i].2.2) ∧ G.cell? ⟨gk, ok + i * 3 + 2, none⟩ = some (.string D[i].2.1)) := fun G hG => by
            obtain ⟨g', o', e', d1⟩ := ((unhide HK9).below hG).df hil2
            rw [hko] at e'; cases e'
            rw [List.getElem_map] at d1
            exact d1
          have HPR : Hid (∀ j, j + 1 = i → ∃ pk, Op.bytesLess pk.toList D[i].1.toList = true ∧ ∀ G : World, Below W9.heap.size W9 G → G.cell? ⟨gl, ol + j * 3, none⟩ = some (.string pk)) := fun j hj => by
            have hjl : j < D.length := by omega
            refine ⟨D[j].1, List.pairwise_iff_getElem.1 (unhide HRS) j i hjl hil (by omega), fun G hG => ?_⟩
            obtain ⟨g', o', e', d1, _⟩ := ((unhide HL9).below hG).df hjl
            rw [hlo] at e'; cases e'; exact d1
          have hix := ixDf gl ol kk lc i hlt
          have hixk := ixDf gk ok kk kc i hlt
          have HIJ : Hid (∀ j, j + 1 = i → ∀ W : World, (Instr.indexAt 35 (.slice (some ⟨gl, ol, none⟩) kk lc) (.int .i64 (j : Int))).run Try.prog W = .ok (.pointer (some ⟨gl, ol + j * 3, none⟩)) W) := fun j hj => ixDf gl ol kk lc j (by omega)
          rw [hlo, hko] at *
          generalize D[i] = e at *
          obtain ⟨dk, dl, dr⟩ := e
          have HCL : Hid (∀ G : World, Below W9.heap.size W9 G → G.cell? ⟨gl, ol + i * 3, none⟩ = some (.string dk) ∧ G.cell? ⟨gl, ol + i * 3 + 1, none⟩ = some (.string dl) ∧ G.cell? ⟨gl, ol + i * 3 + 2, none⟩ = some (.string dr)) := HCL
          have HCK : Hid (∀ G : World, Below W9.heap.size W9 G → G.cell? ⟨gk, ok + i * 3, none⟩ = some (.string dk) ∧ G.cell? ⟨gk, ok + i * 3 + 1, none⟩ = some (.string dr) ∧ G.cell? ⟨gk, ok + i * 3 + 2, none⟩ = some (.string dl)) := HCK
          have HPR : Hid (∀ j, j + 1 = i → ∃ pk : ByteArray, Op.bytesLess pk.toList dk.toList = true ∧ ∀ G : World, Below W9.heap.size W9 G → G.cell? ⟨gl, ol + j * 3, none⟩ = some (.string pk)) := HPR
          have q1 : hasV a dk = dl := q1
          have q2 : hasV b dk = dr := q2
          have q3 : ¬ dl = dr := q3
          have hq : (dr = eB ∧ takV nl dk = (nl', true)) ∨ (dr ≠ eB ∧ putV nl (dk, dr) = (nl', 0)) := hq
          have HH1 : Hid (∀ G : World, Below W9.heap.size W9 G → Calls Try.prog 51 #[.slice ao n c, .string dk] G fun e u' => e = .returned (.string dl) ∧ u' = G) := fun G hG => lHas a ao n c dk G ((unhide HA).below (Below.step (unhide HB9) hG)) dl q1
          have HH2 : Hid (∀ G : World, Below W9.heap.size W9 G → Calls Try.prog 51 #[.slice bo m d, .string dk] G fun e u' => e = .returned (.string dr) ∧ u' = G) := fun G hG => lHas b bo m d dk G ((unhide HB).below (Below.step (unhide HB9) hG)) dr q2
          have hlr : (dl.toList == dr.toList) = false := by rw [ba_beq]; exact decide_eq_false q3
          have hlr2 : ¬ dl.toList = dr.toList := fun e => q3 (ba_list e)
          have hne := neqD (dk, dr, dl) (dk, dr, dl)
          rw [decide_eq_true rfl, show (!true) = false from rfl] at hne
          have hne : ∀ u : World, (binOp .neq 41 (.agg #[.string dk, .string dr, .string dl]) (.agg #[.string dk, .string dr, .string dl])).run Try.prog u = .ok (.bool false) u := hne
          clear q1 q2 q3 HNX HRS hil hil2
          generalize ol + i * 3 = oo at *
          generalize ok + i * 3 = op at *
          go_upto_region 13 with fail
          go_cut [150] from 99 to 150 (fun s150 wx => s150 = .bool false ∧ Hid (Below W9.heap.size W9 wx ∧ El wx nl xo nn cc))
          case first =>
            by_cases hi0 : ¬ 0 < i
            · have hig : ¬ (i : Int) > 0 := by omega
              clear HPR HIJ
              refine wp_region_last (fun G => Below W9.heap.size W9 G) 51 hmix (belowDrew (unhide HI)) fun hS => ?_
              have HEY1 : Hid (El wr.drew nl xo nn cc) := (unhide HE).below (belowDrew (Below.refl _ _))
              generalize wr.drew = Y1 at hS HEY1 ⊢
              refine wpAnyL_take 0 99 (.int .i64 (i : Int)) [1, 2, 16, 29] rfl rfl (by kernel_rfl) (by kernel_rfl) (by kernel_rfl) (by kernel_rfl) (by kernel_rfl) (fun _ _ _ h => h) (by rfl) (fun _ _ => by go_simp) hS ?_
              simp only [Act.put, List.setIfInBounds_toArray, List.set_cons_zero, List.set_cons_succ]
              refine wpAnyL_take 1 100 (.bool false) [2, 16, 29] rfl rfl (by kernel_rfl) (by kernel_rfl) (by kernel_rfl) (by kernel_rfl) (by kernel_rfl) (fun _ _ _ h => h) (by rfl) (fun _ _ => by go_simp) hS ?_
              simp only [Act.put, List.setIfInBounds_toArray, List.set_cons_zero, List.set_cons_succ]
              refine wpAnyL_take 2 101 (.bool false) [16, 29] rfl rfl (by kernel_rfl) (by kernel_rfl) (by kernel_rfl) (by kernel_rfl) (by kernel_rfl) (fun _ _ _ h => h) (by rfl) (fun _ _ => by go_simp) hS ?_
              simp only [Act.put, List.setIfInBounds_toArray, List.set_cons_zero, List.set_cons_succ]
              refine wpAnyL_skip 3 102 [5, 6, 7, 14, 15, 16, 29] rfl rfl (by kernel_rfl) (by kernel_rfl) (by kernel_rfl) (by kernel_rfl) (by kernel_rfl) (fun _ _ _ h => h) (by rfl) hS ?_
              simp only [Act.put, List.setIfInBounds_toArray, List.set_cons_zero, List.set_cons_succ]
              refine wpAnyL_skip 4 103 [5, 6, 7, 14, 15, 16, 29] rfl rfl (by kernel_rfl) (by kernel_rfl) (by kernel_rfl) (by kernel_rfl) (by kernel_rfl) (fun _ _ _ h => h) (by rfl) hS ?_
              simp only [Act.put, List.setIfInBounds_toArray, List.set_cons_zero, List.set_cons_succ]
              refine wpAnyL_skip 5 104 [6, 7, 14, 15, 16, 29] rfl rfl (by kernel_rfl) (by kernel_rfl) (by kernel_rfl) (by kernel_rfl) (by kernel_rfl) (fun _ _ _ h => h) (by rfl) hS ?_
              simp only [Act.put, List.setIfInBounds_toArray, List.set_cons_zero, List.set_cons_succ]
              refine wpAnyL_skip 6 105 [7, 14, 15, 16, 29] rfl rfl (by kernel_rfl) (by kernel_rfl) (by kernel_rfl) (by kernel_rfl) (by kernel_rfl) (fun _ _ _ h => h) (by rfl) hS ?_
              simp only [Act.put, List.setIfInBounds_toArray, List.set_cons_zero, List.set_cons_succ]
              refine wpAnyL_skip 7 106 [14, 15, 16, 29] rfl rfl (by kernel_rfl) (by kernel_rfl) (by kernel_rfl) (by kernel_rfl) (by kernel_rfl) (fun _ _ _ h => h) (by rfl) hS ?_
              simp only [Act.put, List.setIfInBounds_toArray, List.set_cons_zero, List.set_cons_succ]
              refine wpAnyL_skip 8 107 [11, 12, 13, 14, 15, 16, 29] rfl rfl (by kernel_rfl) (by kernel_rfl) (by kernel_rfl) (by kernel_rfl) (by kernel_rfl) (fun _ _ _ h => h) (by rfl) hS ?_
              simp only [Act.put, List.setIfInBounds_toArray, List.set_cons_zero, List.set_cons_succ]
              refine wpAnyL_skip 9 108 [10, 11, 12, 13, 14, 15, 16, 29] rfl rfl (by kernel_rfl) (by kernel_rfl) (by kernel_rfl) (by kernel_rfl) (by kernel_rfl) (fun _ _ _ h => h) (by rfl) hS ?_
              simp only [Act.put, List.setIfInBounds_toArray, List.set_cons_zero, List.set_cons_succ]
              refine wpAnyL_skip 10 109 [11, 12, 13, 14, 15, 16, 29] rfl rfl (by kernel_rfl) (by kernel_rfl) (by kernel_rfl) (by kernel_rfl) (by kernel_rfl) (fun _ _ _ h => h) (by rfl) hS ?_
              simp only [Act.put, List.setIfInBounds_toArray, List.set_cons_zero, List.set_cons_succ]
              refine wpAnyL_skip 11 110 [12, 13, 14, 15, 16, 29] rfl rfl (by kernel_rfl) (by kernel_rfl) (by kernel_rfl) (by kernel_rfl) (by kernel_rfl) (fun _ _ _ h => h) (by rfl) hS ?_
              simp only [Act.put, List.setIfInBounds_toArray, List.set_cons_zero, List.set_cons_succ]
              refine wpAnyL_skip 12 111 [13, 14, 15, 16, 29] rfl rfl (by kernel_rfl) (by kernel_rfl) (by kernel_rfl) (by kernel_rfl) (by kernel_rfl) (fun _ _ _ h => h) (by rfl) hS ?_
              simp only [Act.put, List.setIfInBounds_toArray, List.set_cons_zero, List.set_cons_succ]
              refine wpAnyL_skip 13 112 [14, 15, 16, 29] rfl rfl (by kernel_rfl) (by kernel_rfl) (by kernel_rfl) (by kernel_rfl) (by kernel_rfl) (fun _ _ _ h => h) (by rfl) hS ?_
              simp only [Act.put, List.setIfInBounds_toArray, List.set_cons_zero, List.set_cons_succ]
              refine wpAnyL_skip 14 113 [15, 16, 29] rfl rfl (by kernel_rfl) (by kernel_rfl) (by kernel_rfl) (by kernel_rfl) (by kernel_rfl) (fun _ _ _ h => h) (by rfl) hS ?_
              simp only [Act.put, List.setIfInBounds_toArray, List.set_cons_zero, List.set_cons_succ]
              refine wpAnyL_take 15 114 (.bool false) [16, 29] rfl rfl (by kernel_rfl) (by kernel_rfl) (by kernel_rfl) (by kernel_rfl) (by kernel_rfl) (fun _ _ _ h => h) (by rfl) (fun _ _ => by go_simp) hS ?_
              simp only [Act.put, List.setIfInBounds_toArray, List.set_cons_zero, List.set_cons_succ]
              refine wpAnyL_take 16 115 (.bool false) [29] rfl rfl (by kernel_rfl) (by kernel_rfl) (by kernel_rfl) (by kernel_rfl) (by kernel_rfl) (fun _ _ _ h => h) (by rfl) (fun _ _ => by go_simp) hS ?_
              simp only [Act.put, List.setIfInBounds_toArray, List.set_cons_zero, List.set_cons_succ]
              refine wpAnyL_take 17 116 (.slice (some ⟨gl, ol, none⟩) kk lc) [19, 20, 21, 27, 28, 29] rfl rfl (by kernel_rfl) (by kernel_rfl) (by kernel_rfl) (by kernel_rfl) (by kernel_rfl) (fun _ _ _ h => h) (by rfl) (fun _ _ => by go_simp) hS ?_
              simp only [Act.put, List.setIfInBounds_toArray, List.set_cons_zero, List.set_cons_succ]
              refine wpAnyL_take 18 117 (.int .i64 (i : Int)) [19, 20, 21, 27, 28, 29] rfl rfl (by kernel_rfl) (by kernel_rfl) (by kernel_rfl) (by kernel_rfl) (by kernel_rfl) (fun _ _ _ h => h) (by rfl) (fun _ _ => by go_simp) hS ?_
              simp only [Act.put, List.setIfInBounds_toArray, List.set_cons_zero, List.set_cons_succ]
              refine wpAnyL_take 19 118 (.pointer (some ⟨gl, oo, none⟩)) [20, 21, 27, 28, 29] rfl rfl (by kernel_rfl) (by kernel_rfl) (by kernel_rfl) (by kernel_rfl) (by kernel_rfl) (fun _ _ _ h => h) (by rfl) (fun _ _ => by go_simp) hS ?_
              simp only [Act.put, List.setIfInBounds_toArray, List.set_cons_zero, List.set_cons_succ]
              refine wpAnyL_take 20 119 (.pointer (some ⟨gl, oo + 1, none⟩)) [21, 27, 28, 29] rfl rfl (by kernel_rfl) (by kernel_rfl) (by kernel_rfl) (by kernel_rfl) (by kernel_rfl) (fun _ _ _ h => h) (by rfl) (fun _ _ => by go_simp) hS ?_
              simp only [Act.put, List.setIfInBounds_toArray, List.set_cons_zero, List.set_cons_succ]
              refine wpAnyL_take 21 120 (.string dl) [27, 28, 29] rfl rfl (by kernel_rfl) (by kernel_rfl) (by kernel_rfl) (by kernel_rfl) (by kernel_rfl) (fun _ _ _ h => h) (by rfl) (fun G hG => by obtain ⟨e0, e1, e2⟩ := unhide HCL G hG; go_simp) hS ?_
              simp only [Act.put, List.setIfInBounds_toArray, List.set_cons_zero, List.set_cons_succ]
              refine wpAnyL_take 22 121 (.slice (some ⟨gl, ol, none⟩) kk lc) [24, 25, 26, 27, 28, 29] rfl rfl (by kernel_rfl) (by kernel_rfl) (by kernel_rfl) (by kernel_rfl) (by kernel_rfl) (fun _ _ _ h => h) (by rfl) (fun _ _ => by go_simp) hS ?_
              simp only [Act.put, List.setIfInBounds_toArray, List.set_cons_zero, List.set_cons_succ]
              refine wpAnyL_take 23 122 (.int .i64 (i : Int)) [24, 25, 26, 27, 28, 29] rfl rfl (by kernel_rfl) (by kernel_rfl) (by kernel_rfl) (by kernel_rfl) (by kernel_rfl) (fun _ _ _ h => h) (by rfl) (fun _ _ => by go_simp) hS ?_
              simp only [Act.put, List.setIfInBounds_toArray, List.set_cons_zero, List.set_cons_succ]
              refine wpAnyL_take 24 123 (.pointer (some ⟨gl, oo, none⟩)) [25, 26, 27, 28, 29] rfl rfl (by kernel_rfl) (by kernel_rfl) (by kernel_rfl) (by kernel_rfl) (by kernel_rfl) (fun _ _ _ h => h) (by rfl) (fun _ _ => by go_simp) hS ?_
              simp only [Act.put, List.setIfInBounds_toArray, List.set_cons_zero, List.set_cons_succ]
              refine wpAnyL_take 25 124 (.pointer (some ⟨gl, oo + 2, none⟩)) [26, 27, 28, 29] rfl rfl (by kernel_rfl) (by kernel_rfl) (by kernel_rfl) (by kernel_rfl) (by kernel_rfl) (fun _ _ _ h => h) (by rfl) (fun _ _ => by go_simp) hS ?_
              simp only [Act.put, List.setIfInBounds_toArray, List.set_cons_zero, List.set_cons_succ]
              refine wpAnyL_take 26 125 (.string dr) [27, 28, 29] rfl rfl (by kernel_rfl) (by kernel_rfl) (by kernel_rfl) (by kernel_rfl) (by kernel_rfl) (fun _ _ _ h => h) (by rfl) (fun G hG => by obtain ⟨e0, e1, e2⟩ := unhide HCL G hG; go_simp) hS ?_
              simp only [Act.put, List.setIfInBounds_toArray, List.set_cons_zero, List.set_cons_succ]
              refine wpAnyL_take 27 126 (.bool false) [28, 29] rfl rfl (by kernel_rfl) (by kernel_rfl) (by kernel_rfl) (by kernel_rfl) (by kernel_rfl) (fun _ _ _ h => h) (by rfl) (fun _ _ => by go_simp) hS ?_
              simp only [Act.put, List.setIfInBounds_toArray, List.set_cons_zero, List.set_cons_succ]
              refine wpAnyL_take 28 127 (.bool false) [29] rfl rfl (by kernel_rfl) (by kernel_rfl) (by kernel_rfl) (by kernel_rfl) (by kernel_rfl) (fun _ _ _ h => h) (by rfl) (fun _ _ => by go_simp) hS ?_
              simp only [Act.put, List.setIfInBounds_toArray, List.set_cons_zero, List.set_cons_succ]
              refine wpAnyL_take 29 128 (.bool false) [] rfl rfl (by kernel_rfl) (by kernel_rfl) (by kernel_rfl) (by kernel_rfl) (by kernel_rfl) (fun _ _ _ h => h) (by rfl) (fun _ _ => by go_simp) hS ?_
              simp only [Act.put, List.setIfInBounds_toArray, List.set_cons_zero, List.set_cons_succ]
              refine wpAnyL_take 30 129 (.slice (some ⟨gk, ok, none⟩) kk kc) [32, 33, 50] rfl rfl (by kernel_rfl) (by kernel_rfl) (by kernel_rfl) (by kernel_rfl) (by kernel_rfl) (fun _ _ _ h => h) (by rfl) (fun _ _ => by go_simp) hS ?_
              simp only [Act.put, List.setIfInBounds_toArray, List.set_cons_zero, List.set_cons_succ]
              refine wpAnyL_take 31 130 (.int .i64 (i : Int)) [32, 33, 50] rfl rfl (by kernel_rfl) (by kernel_rfl) (by kernel_rfl) (by kernel_rfl) (by kernel_rfl) (fun _ _ _ h => h) (by rfl) (fun _ _ => by go_simp) hS ?_
              simp only [Act.put, List.setIfInBounds_toArray, List.set_cons_zero, List.set_cons_succ]
              refine wpAnyL_take 32 131 (.pointer (some ⟨gk, op, none⟩)) [33, 50] rfl rfl (by kernel_rfl) (by kernel_rfl) (by kernel_rfl) (by kernel_rfl) (by kernel_rfl) (fun _ _ _ h => h) (by rfl) (fun _ _ => by go_simp) hS ?_
              simp only [Act.put, List.setIfInBounds_toArray, List.set_cons_zero, List.set_cons_succ]
              refine wpAnyL_take 33 132 (.agg #[.string dk, .string dr, .string dl]) [50] rfl rfl (by kernel_rfl) (by kernel_rfl) (by kernel_rfl) (by kernel_rfl) (by kernel_rfl) (fun _ _ _ h => h) (by rfl) (fun G hG => by obtain ⟨e0, e1, e2⟩ := unhide HCK G hG; go_simp) hS ?_
              simp only [Act.put, List.setIfInBounds_toArray, List.set_cons_zero, List.set_cons_succ]
              refine wpAnyL_take 34 133 (.slice (some ⟨gl, ol, none⟩) kk lc) [36, 37, 38, 49, 50] rfl rfl (by kernel_rfl) (by kernel_rfl) (by kernel_rfl) (by kernel_rfl) (by kernel_rfl) (fun _ _ _ h => h) (by rfl) (fun _ _ => by go_simp) hS ?_
              simp only [Act.put, List.setIfInBounds_toArray, List.set_cons_zero, List.set_cons_succ]
              refine wpAnyL_take 35 134 (.int .i64 (i : Int)) [36, 37, 38, 49, 50] rfl rfl (by kernel_rfl) (by kernel_rfl) (by kernel_rfl) (by kernel_rfl) (by kernel_rfl) (fun _ _ _ h => h) (by rfl) (fun _ _ => by go_simp) hS ?_
              simp only [Act.put, List.setIfInBounds_toArray, List.set_cons_zero, List.set_cons_succ]
              refine wpAnyL_take 36 135 (.pointer (some ⟨gl, oo, none⟩)) [37, 38, 49, 50] rfl rfl (by kernel_rfl) (by kernel_rfl) (by kernel_rfl) (by kernel_rfl) (by kernel_rfl) (fun _ _ _ h => h) (by rfl) (fun _ _ => by go_simp) hS ?_
              simp only [Act.put, List.setIfInBounds_toArray, List.set_cons_zero, List.set_cons_succ]
              refine wpAnyL_take 37 136 (.pointer (some ⟨gl, oo, none⟩)) [38, 49, 50] rfl rfl (by kernel_rfl) (by kernel_rfl) (by kernel_rfl) (by kernel_rfl) (by kernel_rfl) (fun _ _ _ h => h) (by rfl) (fun _ _ => by go_simp) hS ?_
              simp only [Act.put, List.setIfInBounds_toArray, List.set_cons_zero, List.set_cons_succ]
              refine wpAnyL_take 38 137 (.string dk) [49, 50] rfl rfl (by kernel_rfl) (by kernel_rfl) (by kernel_rfl) (by kernel_rfl) (by kernel_rfl) (fun _ _ _ h => h) (by rfl) (fun G hG => by obtain ⟨e0, e1, e2⟩ := unhide HCL G hG; go_simp) hS ?_
              simp only [Act.put, List.setIfInBounds_toArray, List.set_cons_zero, List.set_cons_succ]
              refine wpAnyL_take 39 138 (.slice (some ⟨gl, ol, none⟩) kk lc) [41, 42, 43, 49, 50] rfl rfl (by kernel_rfl) (by kernel_rfl) (by kernel_rfl) (by kernel_rfl) (by kernel_rfl) (fun _ _ _ h => h) (by rfl) (fun _ _ => by go_simp) hS ?_
              simp only [Act.put, List.setIfInBounds_toArray, List.set_cons_zero, List.set_cons_succ]
              refine wpAnyL_take 40 139 (.int .i64 (i : Int)) [41, 42, 43, 49, 50] rfl rfl (by kernel_rfl) (by kernel_rfl) (by kernel_rfl) (by kernel_rfl) (by kernel_rfl) (fun _ _ _ h => h) (by rfl) (fun _ _ => by go_simp) hS ?_
              simp only [Act.put, List.setIfInBounds_toArray, List.set_cons_zero, List.set_cons_succ]
              refine wpAnyL_take 41 140 (.pointer (some ⟨gl, oo, none⟩)) [42, 43, 49, 50] rfl rfl (by kernel_rfl) (by kernel_rfl) (by kernel_rfl) (by kernel_rfl) (by kernel_rfl) (fun _ _ _ h => h) (by rfl) (fun _ _ => by go_simp) hS ?_
              simp only [Act.put, List.setIfInBounds_toArray, List.set_cons_zero, List.set_cons_succ]
              refine wpAnyL_take 42 141 (.pointer (some ⟨gl, oo + 2, none⟩)) [43, 49, 50] rfl rfl (by kernel_rfl) (by kernel_rfl) (by kernel_rfl) (by kernel_rfl) (by kernel_rfl) (fun _ _ _ h => h) (by rfl) (fun _ _ => by go_simp) hS ?_
              simp only [Act.put, List.setIfInBounds_toArray, List.set_cons_zero, List.set_cons_succ]
              refine wpAnyL_take 43 142 (.string dr) [49, 50] rfl rfl (by kernel_rfl) (by kernel_rfl) (by kernel_rfl) (by kernel_rfl) (by kernel_rfl) (fun _ _ _ h => h) (by rfl) (fun G hG => by obtain ⟨e0, e1, e2⟩ := unhide HCL G hG; go_simp) hS ?_
              simp only [Act.put, List.setIfInBounds_toArray, List.set_cons_zero, List.set_cons_succ]
              refine wpAnyL_take 44 143 (.slice (some ⟨gl, ol, none⟩) kk lc) [46, 47, 48, 49, 50] rfl rfl (by kernel_rfl) (by kernel_rfl) (by kernel_rfl) (by kernel_rfl) (by kernel_rfl) (fun _ _ _ h => h) (by rfl) (fun _ _ => by go_simp) hS ?_
              simp only [Act.put, List.setIfInBounds_toArray, List.set_cons_zero, List.set_cons_succ]
              refine wpAnyL_take 45 144 (.int .i64 (i : Int)) [46, 47, 48, 49, 50] rfl rfl (by kernel_rfl) (by kernel_rfl) (by kernel_rfl) (by kernel_rfl) (by kernel_rfl) (fun _ _ _ h => h) (by rfl) (fun _ _ => by go_simp) hS ?_
              simp only [Act.put, List.setIfInBounds_toArray, List.set_cons_zero, List.set_cons_succ]
              refine wpAnyL_take 46 145 (.pointer (some ⟨gl, oo, none⟩)) [47, 48, 49, 50] rfl rfl (by kernel_rfl) (by kernel_rfl) (by kernel_rfl) (by kernel_rfl) (by kernel_rfl) (fun _ _ _ h => h) (by rfl) (fun _ _ => by go_simp) hS ?_
              simp only [Act.put, List.setIfInBounds_toArray, List.set_cons_zero, List.set_cons_succ]
              refine wpAnyL_take 47 146 (.pointer (some ⟨gl, oo + 1, none⟩)) [48, 49, 50] rfl rfl (by kernel_rfl) (by kernel_rfl) (by kernel_rfl) (by kernel_rfl) (by kernel_rfl) (fun _ _ _ h => h) (by rfl) (fun _ _ => by go_simp) hS ?_
              simp only [Act.put, List.setIfInBounds_toArray, List.set_cons_zero, List.set_cons_succ]
              refine wpAnyL_take 48 147 (.string dl) [49, 50] rfl rfl (by kernel_rfl) (by kernel_rfl) (by kernel_rfl) (by kernel_rfl) (by kernel_rfl) (fun _ _ _ h => h) (by rfl) (fun G hG => by obtain ⟨e0, e1, e2⟩ := unhide HCL G hG; go_simp) hS ?_
              simp only [Act.put, List.setIfInBounds_toArray, List.set_cons_zero, List.set_cons_succ]
              refine wpAnyL_take 49 148 (.agg #[.string dk, .string dr, .string dl]) [50] rfl rfl (by kernel_rfl) (by kernel_rfl) (by kernel_rfl) (by kernel_rfl) (by kernel_rfl) (fun _ _ _ h => h) (by rfl) (fun _ _ => by go_simp) hS ?_
              simp only [Act.put, List.setIfInBounds_toArray, List.set_cons_zero, List.set_cons_succ]
              refine wpAnyL_take 50 149 (.bool false) [] rfl rfl (by kernel_rfl) (by kernel_rfl) (by kernel_rfl) (by kernel_rfl) (by kernel_rfl) (fun _ _ _ h => h) (by rfl) (fun _ _ => by go_simp) hS ?_
              simp only [Act.put, List.setIfInBounds_toArray, List.set_cons_zero, List.set_cons_succ]
              refine wpAnyL_one (i := 51) (by kernel_rfl) rfl (by rfl) fun K hK => ?_
              refine wp_val (.bool false) (by go_simp) (some 150) (by rfl) ?_
              refine hK _ _ (fun _ => hS) ?_
              clear hK K
              simp only [Act.put, List.setIfInBounds_toArray, List.set_cons_zero, List.set_cons_succ]
              refine wpAnyL_done (by kernel_rfl) ?_ _
              have HIY1 := hide hS
              clear hS
              go_wp2_with fail
              go_meet
              exact ⟨rfl, unhide HIY1, unhide HEY1⟩
            · have hig : (i : Int) > 0 := by omega
              replace hi0 : 0 < i := by omega
              obtain ⟨j, hj⟩ : ∃ j, j + 1 = i := ⟨i - 1, by omega⟩
              have hjw : IntKind.i64.wrap ((i : Int) - 1) = (j : Int) := by rw [IntKind.wrap_i64]; omega
              obtain ⟨pk, hpk, hcp⟩ := unhide HPR j hj
              have HCP := hide hcp
              have hpk2 : Op.bytesLess dk.toList pk.toList = false := lt_asymm (a := pk) (b := dk) hpk
              have hpk3 : ¬ dk.toList = pk.toList := fun e => lt_ne (a := pk) (b := dk) hpk (ba_list e.symm)
              have hixj := unhide HIJ j hj
              clear hcp hj HPR HIJ
              generalize ol + j * 3 = oz at *
              refine wp_region_last (fun G => Below W9.heap.size W9 G) 51 hmix (belowDrew (unhide HI)) fun hS => ?_
              have HEY1 : Hid (El wr.drew nl xo nn cc) := (unhide HE).below (belowDrew (Below.refl _ _))
              generalize wr.drew = Y1 at hS HEY1 ⊢
              refine wpAnyL_take 0 99 (.int .i64 (i : Int)) [1, 2, 16, 29] rfl rfl (by kernel_rfl) (by kernel_rfl) (by kernel_rfl) (by kernel_rfl) (by kernel_rfl) (fun _ _ _ h => h) (by rfl) (fun _ _ => by go_simp) hS ?_
              simp only [Act.put, List.setIfInBounds_toArray, List.set_cons_zero, List.set_cons_succ]
              refine wpAnyL_take 1 100 (.bool true) [2, 16, 29] rfl rfl (by kernel_rfl) (by kernel_rfl) (by kernel_rfl) (by kernel_rfl) (by kernel_rfl) (fun _ _ _ h => h) (by rfl) (fun _ _ => by go_simp) hS ?_
              simp only [Act.put, List.setIfInBounds_toArray, List.set_cons_zero, List.set_cons_succ]
              refine wpAnyL_take 2 101 (.bool true) [16, 29] rfl rfl (by kernel_rfl) (by kernel_rfl) (by kernel_rfl) (by kernel_rfl) (by kernel_rfl) (fun _ _ _ h => h) (by rfl) (fun _ _ => by go_simp) hS ?_
              simp only [Act.put, List.setIfInBounds_toArray, List.set_cons_zero, List.set_cons_succ]
              refine wpAnyL_take 3 102 (.slice (some ⟨gl, ol, none⟩) kk lc) [5, 6, 7, 14, 15, 16, 29] rfl rfl (by kernel_rfl) (by kernel_rfl) (by kernel_rfl) (by kernel_rfl) (by kernel_rfl) (fun _ _ _ h => h) (by rfl) (fun _ _ => by go_simp) hS ?_
              simp only [Act.put, List.setIfInBounds_toArray, List.set_cons_zero, List.set_cons_succ]
              refine wpAnyL_take 4 103 (.int .i64 (i : Int)) [5, 6, 7, 14, 15, 16, 29] rfl rfl (by kernel_rfl) (by kernel_rfl) (by kernel_rfl) (by kernel_rfl) (by kernel_rfl) (fun _ _ _ h => h) (by rfl) (fun _ _ => by go_simp) hS ?_
              simp only [Act.put, List.setIfInBounds_toArray, List.set_cons_zero, List.set_cons_succ]
              refine wpAnyL_take 5 104 (.pointer (some ⟨gl, oo, none⟩)) [6, 7, 14, 15, 16, 29] rfl rfl (by kernel_rfl) (by kernel_rfl) (by kernel_rfl) (by kernel_rfl) (by kernel_rfl) (fun _ _ _ h => h) (by rfl) (fun _ _ => by go_simp) hS ?_
              simp only [Act.put, List.setIfInBounds_toArray, List.set_cons_zero, List.set_cons_succ]
              refine wpAnyL_take 6 105 (.pointer (some ⟨gl, oo, none⟩)) [7, 14, 15, 16, 29] rfl rfl (by kernel_rfl) (by kernel_rfl) (by kernel_rfl) (by kernel_rfl) (by kernel_rfl) (fun _ _ _ h => h) (by rfl) (fun _ _ => by go_simp) hS ?_
              simp only [Act.put, List.setIfInBounds_toArray, List.set_cons_zero, List.set_cons_succ]
              refine wpAnyL_take 7 106 (.string dk) [14, 15, 16, 29] rfl rfl (by kernel_rfl) (by kernel_rfl) (by kernel_rfl) (by kernel_rfl) (by kernel_rfl) (fun _ _ _ h => h) (by rfl) (fun G hG => by obtain ⟨e0, e1, e2⟩ := unhide HCL G hG; go_simp) hS ?_
              simp only [Act.put, List.setIfInBounds_toArray, List.set_cons_zero, List.set_cons_succ]
              refine wpAnyL_take 8 107 (.slice (some ⟨gl, ol, none⟩) kk lc) [11, 12, 13, 14, 15, 16, 29] rfl rfl (by kernel_rfl) (by kernel_rfl) (by kernel_rfl) (by kernel_rfl) (by kernel_rfl) (fun _ _ _ h => h) (by rfl) (fun _ _ => by go_simp) hS ?_
              simp only [Act.put, List.setIfInBounds_toArray, List.set_cons_zero, List.set_cons_succ]
              refine wpAnyL_take 9 108 (.int .i64 (i : Int)) [10, 11, 12, 13, 14, 15, 16, 29] rfl rfl (by kernel_rfl) (by kernel_rfl) (by kernel_rfl) (by kernel_rfl) (by kernel_rfl) (fun _ _ _ h => h) (by rfl) (fun _ _ => by go_simp) hS ?_
              simp only [Act.put, List.setIfInBounds_toArray, List.set_cons_zero, List.set_cons_succ]
              refine wpAnyL_take 10 109 (.int .i64 (j : Int)) [11, 12, 13, 14, 15, 16, 29] rfl rfl (by kernel_rfl) (by kernel_rfl) (by kernel_rfl) (by kernel_rfl) (by kernel_rfl) (fun _ _ _ h => h) (by rfl) (fun _ _ => by go_simp) hS ?_
              simp only [Act.put, List.setIfInBounds_toArray, List.set_cons_zero, List.set_cons_succ]
              refine wpAnyL_take 11 110 (.pointer (some ⟨gl, oz, none⟩)) [12, 13, 14, 15, 16, 29] rfl rfl (by kernel_rfl) (by kernel_rfl) (by kernel_rfl) (by kernel_rfl) (by kernel_rfl) (fun _ _ _ h => h) (by rfl) (fun _ _ => by go_simp) hS ?_
              simp only [Act.put, List.setIfInBounds_toArray, List.set_cons_zero, List.set_cons_succ]
              refine wpAnyL_take 12 111 (.pointer (some ⟨gl, oz, none⟩)) [13, 14, 15, 16, 29] rfl rfl (by kernel_rfl) (by kernel_rfl) (by kernel_rfl) (by kernel_rfl) (by kernel_rfl) (fun _ _ _ h => h) (by rfl) (fun _ _ => by go_simp) hS ?_
              simp only [Act.put, List.setIfInBounds_toArray, List.set_cons_zero, List.set_cons_succ]
              refine wpAnyL_take 13 112 (.string pk) [14, 15, 16, 29] rfl rfl (by kernel_rfl) (by kernel_rfl) (by kernel_rfl) (by kernel_rfl) (by kernel_rfl) (fun _ _ _ h => h) (by rfl) (fun G hG => by have e0 := unhide HCP G hG; go_simp) hS ?_
              simp only [Act.put, List.setIfInBounds_toArray, List.set_cons_zero, List.set_cons_succ]
              refine wpAnyL_take 14 113 (.bool false) [15, 16, 29] rfl rfl (by kernel_rfl) (by kernel_rfl) (by kernel_rfl) (by kernel_rfl) (by kernel_rfl) (fun _ _ _ h => h) (by rfl) (fun _ _ => by go_simp) hS ?_
              simp only [Act.put, List.setIfInBounds_toArray, List.set_cons_zero, List.set_cons_succ]
              refine wpAnyL_take 15 114 (.bool false) [16, 29] rfl rfl (by kernel_rfl) (by kernel_rfl) (by kernel_rfl) (by kernel_rfl) (by kernel_rfl) (fun _ _ _ h => h) (by rfl) (fun _ _ => by go_simp) hS ?_
              simp only [Act.put, List.setIfInBounds_toArray, List.set_cons_zero, List.set_cons_succ]
              refine wpAnyL_take 16 115 (.bool false) [29] rfl rfl (by kernel_rfl) (by kernel_rfl) (by kernel_rfl) (by kernel_rfl) (by kernel_rfl) (fun _ _ _ h => h) (by rfl) (fun _ _ => by go_simp) hS ?_
              simp only [Act.put, List.setIfInBounds_toArray, List.set_cons_zero, List.set_cons_succ]
              refine wpAnyL_take 17 116 (.slice (some ⟨gl, ol, none⟩) kk lc) [19, 20, 21, 27, 28, 29] rfl rfl (by kernel_rfl) (by kernel_rfl) (by kernel_rfl) (by kernel_rfl) (by kernel_rfl) (fun _ _ _ h => h) (by rfl) (fun _ _ => by go_simp) hS ?_
              simp only [Act.put, List.setIfInBounds_toArray, List.set_cons_zero, List.set_cons_succ]
              refine wpAnyL_take 18 117 (.int .i64 (i : Int)) [19, 20, 21, 27, 28, 29] rfl rfl (by kernel_rfl) (by kernel_rfl) (by kernel_rfl) (by kernel_rfl) (by kernel_rfl) (fun _ _ _ h => h) (by rfl) (fun _ _ => by go_simp) hS ?_
              simp only [Act.put, List.setIfInBounds_toArray, List.set_cons_zero, List.set_cons_succ]
              refine wpAnyL_take 19 118 (.pointer (some ⟨gl, oo, none⟩)) [20, 21, 27, 28, 29] rfl rfl (by kernel_rfl) (by kernel_rfl) (by kernel_rfl) (by kernel_rfl) (by kernel_rfl) (fun _ _ _ h => h) (by rfl) (fun _ _ => by go_simp) hS ?_
              simp only [Act.put, List.setIfInBounds_toArray, List.set_cons_zero, List.set_cons_succ]
              refine wpAnyL_take 20 119 (.pointer (some ⟨gl, oo + 1, none⟩)) [21, 27, 28, 29] rfl rfl (by kernel_rfl) (by kernel_rfl) (by kernel_rfl) (by kernel_rfl) (by kernel_rfl) (fun _ _ _ h => h) (by rfl) (fun _ _ => by go_simp) hS ?_
              simp only [Act.put, List.setIfInBounds_toArray, List.set_cons_zero, List.set_cons_succ]
              refine wpAnyL_take 21 120 (.string dl) [27, 28, 29] rfl rfl (by kernel_rfl) (by kernel_rfl) (by kernel_rfl) (by kernel_rfl) (by kernel_rfl) (fun _ _ _ h => h) (by rfl) (fun G hG => by obtain ⟨e0, e1, e2⟩ := unhide HCL G hG; go_simp) hS ?_
              simp only [Act.put, List.setIfInBounds_toArray, List.set_cons_zero, List.set_cons_succ]
              refine wpAnyL_take 22 121 (.slice (some ⟨gl, ol, none⟩) kk lc) [24, 25, 26, 27, 28, 29] rfl rfl (by kernel_rfl) (by kernel_rfl) (by kernel_rfl) (by kernel_rfl) (by kernel_rfl) (fun _ _ _ h => h) (by rfl) (fun _ _ => by go_simp) hS ?_
              simp only [Act.put, List.setIfInBounds_toArray, List.set_cons_zero, List.set_cons_succ]
              refine wpAnyL_take 23 122 (.int .i64 (i : Int)) [24, 25, 26, 27, 28, 29] rfl rfl (by kernel_rfl) (by kernel_rfl) (by kernel_rfl) (by kernel_rfl) (by kernel_rfl) (fun _ _ _ h => h) (by rfl) (fun _ _ => by go_simp) hS ?_
              simp only [Act.put, List.setIfInBounds_toArray, List.set_cons_zero, List.set_cons_succ]
              refine wpAnyL_take 24 123 (.pointer (some ⟨gl, oo, none⟩)) [25, 26, 27, 28, 29] rfl rfl (by kernel_rfl) (by kernel_rfl) (by kernel_rfl) (by kernel_rfl) (by kernel_rfl) (fun _ _ _ h => h) (by rfl) (fun _ _ => by go_simp) hS ?_
              simp only [Act.put, List.setIfInBounds_toArray, List.set_cons_zero, List.set_cons_succ]
              refine wpAnyL_take 25 124 (.pointer (some ⟨gl, oo + 2, none⟩)) [26, 27, 28, 29] rfl rfl (by kernel_rfl) (by kernel_rfl) (by kernel_rfl) (by kernel_rfl) (by kernel_rfl) (fun _ _ _ h => h) (by rfl) (fun _ _ => by go_simp) hS ?_
              simp only [Act.put, List.setIfInBounds_toArray, List.set_cons_zero, List.set_cons_succ]
              refine wpAnyL_take 26 125 (.string dr) [27, 28, 29] rfl rfl (by kernel_rfl) (by kernel_rfl) (by kernel_rfl) (by kernel_rfl) (by kernel_rfl) (fun _ _ _ h => h) (by rfl) (fun G hG => by obtain ⟨e0, e1, e2⟩ := unhide HCL G hG; go_simp) hS ?_
              simp only [Act.put, List.setIfInBounds_toArray, List.set_cons_zero, List.set_cons_succ]
              refine wpAnyL_take 27 126 (.bool false) [28, 29] rfl rfl (by kernel_rfl) (by kernel_rfl) (by kernel_rfl) (by kernel_rfl) (by kernel_rfl) (fun _ _ _ h => h) (by rfl) (fun _ _ => by go_simp) hS ?_
              simp only [Act.put, List.setIfInBounds_toArray, List.set_cons_zero, List.set_cons_succ]
              refine wpAnyL_take 28 127 (.bool false) [29] rfl rfl (by kernel_rfl) (by kernel_rfl) (by kernel_rfl) (by kernel_rfl) (by kernel_rfl) (fun _ _ _ h => h) (by rfl) (fun _ _ => by go_simp) hS ?_
              simp only [Act.put, List.setIfInBounds_toArray, List.set_cons_zero, List.set_cons_succ]
              refine wpAnyL_take 29 128 (.bool false) [] rfl rfl (by kernel_rfl) (by kernel_rfl) (by kernel_rfl) (by kernel_rfl) (by kernel_rfl) (fun _ _ _ h => h) (by rfl) (fun _ _ => by go_simp) hS ?_
              simp only [Act.put, List.setIfInBounds_toArray, List.set_cons_zero, List.set_cons_succ]
              refine wpAnyL_take 30 129 (.slice (some ⟨gk, ok, none⟩) kk kc) [32, 33, 50] rfl rfl (by kernel_rfl) (by kernel_rfl) (by kernel_rfl) (by kernel_rfl) (by kernel_rfl) (fun _ _ _ h => h) (by rfl) (fun _ _ => by go_simp) hS ?_
              simp only [Act.put, List.setIfInBounds_toArray, List.set_cons_zero, List.set_cons_succ]
              refine wpAnyL_take 31 130 (.int .i64 (i : Int)) [32, 33, 50] rfl rfl (by kernel_rfl) (by kernel_rfl) (by kernel_rfl) (by kernel_rfl) (by kernel_rfl) (fun _ _ _ h => h) (by rfl) (fun _ _ => by go_simp) hS ?_
              simp only [Act.put, List.setIfInBounds_toArray, List.set_cons_zero, List.set_cons_succ]
              refine wpAnyL_take 32 131 (.pointer (some ⟨gk, op, none⟩)) [33, 50] rfl rfl (by kernel_rfl) (by kernel_rfl) (by kernel_rfl) (by kernel_rfl) (by kernel_rfl) (fun _ _ _ h => h) (by rfl) (fun _ _ => by go_simp) hS ?_
              simp only [Act.put, List.setIfInBounds_toArray, List.set_cons_zero, List.set_cons_succ]
              refine wpAnyL_take 33 132 (.agg #[.string dk, .string dr, .string dl]) [50] rfl rfl (by kernel_rfl) (by kernel_rfl) (by kernel_rfl) (by kernel_rfl) (by kernel_rfl) (fun _ _ _ h => h) (by rfl) (fun G hG => by obtain ⟨e0, e1, e2⟩ := unhide HCK G hG; go_simp) hS ?_
              simp only [Act.put, List.setIfInBounds_toArray, List.set_cons_zero, List.set_cons_succ]
              refine wpAnyL_take 34 133 (.slice (some ⟨gl, ol, none⟩) kk lc) [36, 37, 38, 49, 50] rfl rfl (by kernel_rfl) (by kernel_rfl) (by kernel_rfl) (by kernel_rfl) (by kernel_rfl) (fun _ _ _ h => h) (by rfl) (fun _ _ => by go_simp) hS ?_
              simp only [Act.put, List.setIfInBounds_toArray, List.set_cons_zero, List.set_cons_succ]
              refine wpAnyL_take 35 134 (.int .i64 (i : Int)) [36, 37, 38, 49, 50] rfl rfl (by kernel_rfl) (by kernel_rfl) (by kernel_rfl) (by kernel_rfl) (by kernel_rfl) (fun _ _ _ h => h) (by rfl) (fun _ _ => by go_simp) hS ?_
              simp only [Act.put, List.setIfInBounds_toArray, List.set_cons_zero, List.set_cons_succ]
              refine wpAnyL_take 36 135 (.pointer (some ⟨gl, oo, none⟩)) [37, 38, 49, 50] rfl rfl (by kernel_rfl) (by kernel_rfl) (by kernel_rfl) (by kernel_rfl) (by kernel_rfl) (fun _ _ _ h => h) (by rfl) (fun _ _ => by go_simp) hS ?_
              simp only [Act.put, List.setIfInBounds_toArray, List.set_cons_zero, List.set_cons_succ]
              refine wpAnyL_take 37 136 (.pointer (some ⟨gl, oo, none⟩)) [38, 49, 50] rfl rfl (by kernel_rfl) (by kernel_rfl) (by kernel_rfl) (by kernel_rfl) (by kernel_rfl) (fun _ _ _ h => h) (by rfl) (fun _ _ => by go_simp) hS ?_
              simp only [Act.put, List.setIfInBounds_toArray, List.set_cons_zero, List.set_cons_succ]
              refine wpAnyL_take 38 137 (.string dk) [49, 50] rfl rfl (by kernel_rfl) (by kernel_rfl) (by kernel_rfl) (by kernel_rfl) (by kernel_rfl) (fun _ _ _ h => h) (by rfl) (fun G hG => by obtain ⟨e0, e1, e2⟩ := unhide HCL G hG; go_simp) hS ?_
              simp only [Act.put, List.setIfInBounds_toArray, List.set_cons_zero, List.set_cons_succ]
              refine wpAnyL_take 39 138 (.slice (some ⟨gl, ol, none⟩) kk lc) [41, 42, 43, 49, 50] rfl rfl (by kernel_rfl) (by kernel_rfl) (by kernel_rfl) (by kernel_rfl) (by kernel_rfl) (fun _ _ _ h => h) (by rfl) (fun _ _ => by go_simp) hS ?_
              simp only [Act.put, List.setIfInBounds_toArray, List.set_cons_zero, List.set_cons_succ]
              refine wpAnyL_take 40 139 (.int .i64 (i : Int)) [41, 42, 43, 49, 50] rfl rfl (by kernel_rfl) (by kernel_rfl) (by kernel_rfl) (by kernel_rfl) (by kernel_rfl) (fun _ _ _ h => h) (by rfl) (fun _ _ => by go_simp) hS ?_
              simp only [Act.put, List.setIfInBounds_toArray, List.set_cons_zero, List.set_cons_succ]
              refine wpAnyL_take 41 140 (.pointer (some ⟨gl, oo, none⟩)) [42, 43, 49, 50] rfl rfl (by kernel_rfl) (by kernel_rfl) (by kernel_rfl) (by kernel_rfl) (by kernel_rfl) (fun _ _ _ h => h) (by rfl) (fun _ _ => by go_simp) hS ?_
              simp only [Act.put, List.setIfInBounds_toArray, List.set_cons_zero, List.set_cons_succ]
              refine wpAnyL_take 42 141 (.pointer (some ⟨gl, oo + 2, none⟩)) [43, 49, 50] rfl rfl (by kernel_rfl) (by kernel_rfl) (by kernel_rfl) (by kernel_rfl) (by kernel_rfl) (fun _ _ _ h => h) (by rfl) (fun _ _ => by go_simp) hS ?_
              simp only [Act.put, List.setIfInBounds_toArray, List.set_cons_zero, List.set_cons_succ]
              refine wpAnyL_take 43 142 (.string dr) [49, 50] rfl rfl (by kernel_rfl) (by kernel_rfl) (by kernel_rfl) (by kernel_rfl) (by kernel_rfl) (fun _ _ _ h => h) (by rfl) (fun G hG => by obtain ⟨e0, e1, e2⟩ := unhide HCL G hG; go_simp) hS ?_
              simp only [Act.put, List.setIfInBounds_toArray, List.set_cons_zero, List.set_cons_succ]
              refine wpAnyL_take 44 143 (.slice (some ⟨gl, ol, none⟩) kk lc) [46, 47, 48, 49, 50] rfl rfl (by kernel_rfl) (by kernel_rfl) (by kernel_rfl) (by kernel_rfl) (by kernel_rfl) (fun _ _ _ h => h) (by rfl) (fun _ _ => by go_simp) hS ?_
              simp only [Act.put, List.setIfInBounds_toArray, List.set_cons_zero, List.set_cons_succ]
              refine wpAnyL_take 45 144 (.int .i64 (i : Int)) [46, 47, 48, 49, 50] rfl rfl (by kernel_rfl) (by kernel_rfl) (by kernel_rfl) (by kernel_rfl) (by kernel_rfl) (fun _ _ _ h => h) (by rfl) (fun _ _ => by go_simp) hS ?_
              simp only [Act.put, List.setIfInBounds_toArray, List.set_cons_zero, List.set_cons_succ]
              refine wpAnyL_take 46 145 (.pointer (some ⟨gl, oo, none⟩)) [47, 48, 49, 50] rfl rfl (by kernel_rfl) (by kernel_rfl) (by kernel_rfl) (by kernel_rfl) (by kernel_rfl) (fun _ _ _ h => h) (by rfl) (fun _ _ => by go_simp) hS ?_
              simp only [Act.put, List.setIfInBounds_toArray, List.set_cons_zero, List.set_cons_succ]
              refine wpAnyL_take 47 146 (.pointer (some ⟨gl, oo + 1, none⟩)) [48, 49, 50] rfl rfl (by kernel_rfl) (by kernel_rfl) (by kernel_rfl) (by kernel_rfl) (by kernel_rfl) (fun _ _ _ h => h) (by rfl) (fun _ _ => by go_simp) hS ?_
              simp only [Act.put, List.setIfInBounds_toArray, List.set_cons_zero, List.set_cons_succ]
              refine wpAnyL_take 48 147 (.string dl) [49, 50] rfl rfl (by kernel_rfl) (by kernel_rfl) (by kernel_rfl) (by kernel_rfl) (by kernel_rfl) (fun _ _ _ h => h) (by rfl) (fun G hG => by obtain ⟨e0, e1, e2⟩ := unhide HCL G hG; go_simp) hS ?_
              simp only [Act.put, List.setIfInBounds_toArray, List.set_cons_zero, List.set_cons_succ]
              refine wpAnyL_take 49 148 (.agg #[.string dk, .string dr, .string dl]) [50] rfl rfl (by kernel_rfl) (by kernel_rfl) (by kernel_rfl) (by kernel_rfl) (by kernel_rfl) (fun _ _ _ h => h) (by rfl) (fun _ _ => by go_simp) hS ?_
              simp only [Act.put, List.setIfInBounds_toArray, List.set_cons_zero, List.set_cons_succ]
              refine wpAnyL_take 50 149 (.bool false) [] rfl rfl (by kernel_rfl) (by kernel_rfl) (by kernel_rfl) (by kernel_rfl) (by kernel_rfl) (fun _ _ _ h => h) (by rfl) (fun _ _ => by go_simp) hS ?_
              simp only [Act.put, List.setIfInBounds_toArray, List.set_cons_zero, List.set_cons_succ]
              refine wpAnyL_one (i := 51) (by kernel_rfl) rfl (by rfl) fun K hK => ?_
              refine wp_val (.bool false) (by go_simp) (some 150) (by rfl) ?_
              refine hK _ _ (fun _ => hS) ?_
              clear hK K
              simp only [Act.put, List.setIfInBounds_toArray, List.set_cons_zero, List.set_cons_succ]
              refine wpAnyL_done (by kernel_rfl) ?_ _
              have HIY1 := hide hS
              clear hS
              go_wp2_with fail
              go_meet
              exact ⟨rfl, unhide HIY1, unhide HEY1⟩
          case rest =>
            obtain ⟨rfl, hwc⟩ := hcut
            obtain ⟨Y1, hY1⟩ : ∃ w, w = wc := ⟨_, rfl⟩
            subst hY1
            have HIY1 := hide (unhide hwc).1
            have HEY1 := hide (unhide hwc).2
            clear hwc HPR HIJ HCK hne hlr hlr2 HI HE
            go_wp2_with fail
            refine wp_region_last (fun G => Below W9.heap.size W9 G) 27 hmix (belowDrew (unhide HIY1)) fun hS => ?_
            have HEY2 : Hid (El Y1.drew nl xo nn cc) := (unhide HEY1).below (belowDrew (Below.refl _ _))
            generalize Y1.drew = Y2 at hS HEY2 ⊢
            refine wpAnyL_take 0 151 (.slice ao n c) [6, 13] rfl rfl (by kernel_rfl) (by kernel_rfl) (by kernel_rfl) (by kernel_rfl) (by kernel_rfl) (fun _ _ _ h => h) (by rfl) (fun _ _ => by go_simp) hS ?_
            simp only [Act.put, List.setIfInBounds_toArray, List.set_cons_zero, List.set_cons_succ]
            refine wpAnyL_take 1 152 (.slice (some ⟨gl, ol, none⟩) kk lc) [3, 4, 5, 6, 13] rfl rfl (by kernel_rfl) (by kernel_rfl) (by kernel_rfl) (by kernel_rfl) (by kernel_rfl) (fun _ _ _ h => h) (by rfl) (fun _ _ => by go_simp) hS ?_
            simp only [Act.put, List.setIfInBounds_toArray, List.set_cons_zero, List.set_cons_succ]
            refine wpAnyL_take 2 153 (.int .i64 (i : Int)) [3, 4, 5, 6, 13] rfl rfl (by kernel_rfl) (by kernel_rfl) (by kernel_rfl) (by kernel_rfl) (by kernel_rfl) (fun _ _ _ h => h) (by rfl) (fun _ _ => by go_simp) hS ?_
            simp only [Act.put, List.setIfInBounds_toArray, List.set_cons_zero, List.set_cons_succ]
            refine wpAnyL_take 3 154 (.pointer (some ⟨gl, oo, none⟩)) [4, 5, 6, 13] rfl rfl (by kernel_rfl) (by kernel_rfl) (by kernel_rfl) (by kernel_rfl) (by kernel_rfl) (fun _ _ _ h => h) (by rfl) (fun _ _ => by go_simp) hS ?_
            simp only [Act.put, List.setIfInBounds_toArray, List.set_cons_zero, List.set_cons_succ]
            refine wpAnyL_take 4 155 (.pointer (some ⟨gl, oo, none⟩)) [5, 6, 13] rfl rfl (by kernel_rfl) (by kernel_rfl) (by kernel_rfl) (by kernel_rfl) (by kernel_rfl) (fun _ _ _ h => h) (by rfl) (fun _ _ => by go_simp) hS ?_
            simp only [Act.put, List.setIfInBounds_toArray, List.set_cons_zero, List.set_cons_succ]
            refine wpAnyL_take 5 156 (.string dk) [6, 13] rfl rfl (by kernel_rfl) (by kernel_rfl) (by kernel_rfl) (by kernel_rfl) (by kernel_rfl) (fun _ _ _ h => h) (by rfl) (fun G hG => by obtain ⟨e0, e1, e2⟩ := unhide HCL G hG; go_simp) hS ?_
            simp only [Act.put, List.setIfInBounds_toArray, List.set_cons_zero, List.set_cons_succ]
            refine wpAnyL_take 7 158 (.slice (some ⟨gl, ol, none⟩) kk lc) [9, 10, 11, 12, 13] rfl rfl (by kernel_rfl) (by kernel_rfl) (by kernel_rfl) (by kernel_rfl) (by kernel_rfl) (fun _ _ _ h => h) (by rfl) (fun _ _ => by go_simp) hS ?_
            simp only [Act.put, List.setIfInBounds_toArray, List.set_cons_zero, List.set_cons_succ]
            refine wpAnyL_take 8 159 (.int .i64 (i : Int)) [9, 10, 11, 12, 13] rfl rfl (by kernel_rfl) (by kernel_rfl) (by kernel_rfl) (by kernel_rfl) (by kernel_rfl) (fun _ _ _ h => h) (by rfl) (fun _ _ => by go_simp) hS ?_
            simp only [Act.put, List.setIfInBounds_toArray, List.set_cons_zero, List.set_cons_succ]
            refine wpAnyL_take 9 160 (.pointer (some ⟨gl, oo, none⟩)) [10, 11, 12, 13] rfl rfl (by kernel_rfl) (by kernel_rfl) (by kernel_rfl) (by kernel_rfl) (by kernel_rfl) (fun _ _ _ h => h) (by rfl) (fun _ _ => by go_simp) hS ?_
            simp only [Act.put, List.setIfInBounds_toArray, List.set_cons_zero, List.set_cons_succ]
            refine wpAnyL_take 10 161 (.pointer (some ⟨gl, oo + 1, none⟩)) [11, 12, 13] rfl rfl (by kernel_rfl) (by kernel_rfl) (by kernel_rfl) (by kernel_rfl) (by kernel_rfl) (fun _ _ _ h => h) (by rfl) (fun _ _ => by go_simp) hS ?_
            simp only [Act.put, List.setIfInBounds_toArray, List.set_cons_zero, List.set_cons_succ]
            refine wpAnyL_take 11 162 (.string dl) [12, 13] rfl rfl (by kernel_rfl) (by kernel_rfl) (by kernel_rfl) (by kernel_rfl) (by kernel_rfl) (fun _ _ _ h => h) (by rfl) (fun G hG => by obtain ⟨e0, e1, e2⟩ := unhide HCL G hG; go_simp) hS ?_
            simp only [Act.put, List.setIfInBounds_toArray, List.set_cons_zero, List.set_cons_succ]
            refine wpAnyL_one (i := 6) (by kernel_rfl) rfl (by rfl) fun K hK => ?_
            refine wp_call_fn 51 _ _ (by rfl) #[.slice ao n c, .string dk] (by with_unfolding_all rfl) entHS (some 157) (by rfl) _ (asV (unhide HH1 Y2 hS)) ?_
            rintro _ wq ⟨rfl, hwq⟩
            obtain rfl := hwq.symm
            refine hK _ _ (fun _ => hS) ?_
            clear hK K
            simp only [Act.put, List.setIfInBounds_toArray, List.set_cons_zero, List.set_cons_succ]
            refine wpAnyL_take 12 163 (.bool false) [13] rfl rfl (by kernel_rfl) (by kernel_rfl) (by kernel_rfl) (by kernel_rfl) (by kernel_rfl) (fun _ _ _ h => h) (by rfl) (fun _ _ => by go_simp) hS ?_
            simp only [Act.put, List.setIfInBounds_toArray, List.set_cons_zero, List.set_cons_succ]
            refine wpAnyL_take 13 164 (.bool false) [] rfl rfl (by kernel_rfl) (by kernel_rfl) (by kernel_rfl) (by kernel_rfl) (by kernel_rfl) (fun _ _ _ h => h) (by rfl) (fun _ _ => by go_simp) hS ?_
            simp only [Act.put, List.setIfInBounds_toArray, List.set_cons_zero, List.set_cons_succ]
            refine wpAnyL_take 14 165 (.slice bo m d) [20, 26] rfl rfl (by kernel_rfl) (by kernel_rfl) (by kernel_rfl) (by kernel_rfl) (by kernel_rfl) (fun _ _ _ h => h) (by rfl) (fun _ _ => by go_simp) hS ?_
            simp only [Act.put, List.setIfInBounds_toArray, List.set_cons_zero, List.set_cons_succ]
            refine wpAnyL_take 15 166 (.slice (some ⟨gl, ol, none⟩) kk lc) [17, 18, 19, 20, 26] rfl rfl (by kernel_rfl) (by kernel_rfl) (by kernel_rfl) (by kernel_rfl) (by kernel_rfl) (fun _ _ _ h => h) (by rfl) (fun _ _ => by go_simp) hS ?_
            simp only [Act.put, List.setIfInBounds_toArray, List.set_cons_zero, List.set_cons_succ]
            refine wpAnyL_take 16 167 (.int .i64 (i : Int)) [17, 18, 19, 20, 26] rfl rfl (by kernel_rfl) (by kernel_rfl) (by kernel_rfl) (by kernel_rfl) (by kernel_rfl) (fun _ _ _ h => h) (by rfl) (fun _ _ => by go_simp) hS ?_
            simp only [Act.put, List.setIfInBounds_toArray, List.set_cons_zero, List.set_cons_succ]
            refine wpAnyL_take 17 168 (.pointer (some ⟨gl, oo, none⟩)) [18, 19, 20, 26] rfl rfl (by kernel_rfl) (by kernel_rfl) (by kernel_rfl) (by kernel_rfl) (by kernel_rfl) (fun _ _ _ h => h) (by rfl) (fun _ _ => by go_simp) hS ?_
            simp only [Act.put, List.setIfInBounds_toArray, List.set_cons_zero, List.set_cons_succ]
            refine wpAnyL_take 18 169 (.pointer (some ⟨gl, oo, none⟩)) [19, 20, 26] rfl rfl (by kernel_rfl) (by kernel_rfl) (by kernel_rfl) (by kernel_rfl) (by kernel_rfl) (fun _ _ _ h => h) (by rfl) (fun _ _ => by go_simp) hS ?_
            simp only [Act.put, List.setIfInBounds_toArray, List.set_cons_zero, List.set_cons_succ]
            refine wpAnyL_take 19 170 (.string dk) [20, 26] rfl rfl (by kernel_rfl) (by kernel_rfl) (by kernel_rfl) (by kernel_rfl) (by kernel_rfl) (fun _ _ _ h => h) (by rfl) (fun G hG => by obtain ⟨e0, e1, e2⟩ := unhide HCL G hG; go_simp) hS ?_
            simp only [Act.put, List.setIfInBounds_toArray, List.set_cons_zero, List.set_cons_succ]
            refine wpAnyL_take 21 172 (.slice (some ⟨gl, ol, none⟩) kk lc) [23, 24, 25, 26] rfl rfl (by kernel_rfl) (by kernel_rfl) (by kernel_rfl) (by kernel_rfl) (by kernel_rfl) (fun _ _ _ h => h) (by rfl) (fun _ _ => by go_simp) hS ?_
            simp only [Act.put, List.setIfInBounds_toArray, List.set_cons_zero, List.set_cons_succ]
            refine wpAnyL_take 22 173 (.int .i64 (i : Int)) [23, 24, 25, 26] rfl rfl (by kernel_rfl) (by kernel_rfl) (by kernel_rfl) (by kernel_rfl) (by kernel_rfl) (fun _ _ _ h => h) (by rfl) (fun _ _ => by go_simp) hS ?_
            simp only [Act.put, List.setIfInBounds_toArray, List.set_cons_zero, List.set_cons_succ]
            refine wpAnyL_take 23 174 (.pointer (some ⟨gl, oo, none⟩)) [24, 25, 26] rfl rfl (by kernel_rfl) (by kernel_rfl) (by kernel_rfl) (by kernel_rfl) (by kernel_rfl) (fun _ _ _ h => h) (by rfl) (fun _ _ => by go_simp) hS ?_
            simp only [Act.put, List.setIfInBounds_toArray, List.set_cons_zero, List.set_cons_succ]
            refine wpAnyL_take 24 175 (.pointer (some ⟨gl, oo + 2, none⟩)) [25, 26] rfl rfl (by kernel_rfl) (by kernel_rfl) (by kernel_rfl) (by kernel_rfl) (by kernel_rfl) (fun _ _ _ h => h) (by rfl) (fun _ _ => by go_simp) hS ?_
            simp only [Act.put, List.setIfInBounds_toArray, List.set_cons_zero, List.set_cons_succ]
            refine wpAnyL_take 25 176 (.string dr) [26] rfl rfl (by kernel_rfl) (by kernel_rfl) (by kernel_rfl) (by kernel_rfl) (by kernel_rfl) (fun _ _ _ h => h) (by rfl) (fun G hG => by obtain ⟨e0, e1, e2⟩ := unhide HCL G hG; go_simp) hS ?_
            simp only [Act.put, List.setIfInBounds_toArray, List.set_cons_zero, List.set_cons_succ]
            refine wpAnyL_one (i := 20) (by kernel_rfl) rfl (by rfl) fun K hK => ?_
            refine wp_call_fn 51 _ _ (by rfl) #[.slice bo m d, .string dk] (by with_unfolding_all rfl) entHS (some 171) (by rfl) _ (asV (unhide HH2 Y2 hS)) ?_
            rintro _ wq ⟨rfl, hwq⟩
            obtain rfl := hwq.symm
            refine hK _ _ (fun _ => hS) ?_
            clear hK K
            simp only [Act.put, List.setIfInBounds_toArray, List.set_cons_zero, List.set_cons_succ]
            refine wpAnyL_take 26 177 (.bool false) [] rfl rfl (by kernel_rfl) (by kernel_rfl) (by kernel_rfl) (by kernel_rfl) (by kernel_rfl) (fun _ _ _ h => h) (by rfl) (fun _ _ => by go_simp) hS ?_
            simp only [Act.put, List.setIfInBounds_toArray, List.set_cons_zero, List.set_cons_succ]
            refine wpAnyL_one (i := 27) (by kernel_rfl) rfl (by rfl) fun K hK => ?_
            refine wp_val (.bool false) (by go_simp) (some 178) (by rfl) ?_
            refine hK _ _ (fun _ => hS) ?_
            clear hK K
            simp only [Act.put, List.setIfInBounds_toArray, List.set_cons_zero, List.set_cons_succ]
            refine wpAnyL_done (by kernel_rfl) ?_ _
            have HIY2 := hide hS
            clear hS
            obtain ⟨c0, c1, c2⟩ := unhide HCL Y2 (unhide HIY2)
            rcases hq with ⟨hr, hv⟩ | ⟨hr, hv⟩
            · obtain rfl : dr = ⟨#[]⟩ := hr
              have HTK := hide (sTake nl xo nn cc dk Y2 (unhide HEY2) nl' true hv)
              clear hv
              go_wp2_with (first
                | (go_at_call 36; refine (unhide HTK).mono ?_; rintro e Y3 ⟨x4, n4, c4, rfl, hk, ho, hb⟩; have HI4 : Hid (Below W9.heap.size W9 Y3) := Below.step (unhide HIY2) hb; have HE4 : Hid (El Y3 nl' x4 n4 c4) := ⟨ho.at (unhide HNL), hk⟩; clear hb ho hk HTK)
                | fail)
              go_roundw
              case rel => exact ⟨i + 1, n4, c4, x4, nl', by omega, by go_num, rfl, unhide HPS', unhide HE4, unhide HI4⟩
              case measure => simp [intOf]; omega
            · have HPU : Hid (∀ G : World, El G nl xo nn cc → Calls Try.prog 33 #[.slice xo nn cc, .agg #[.string dk, .string dr]] G fun e u' => ∃ x k c', e = .returned (.tuple #[.slice x k c', .int .i64 0]) ∧ k = nl'.length ∧ RE.Own u' G.heap.size nl' x c' ∧ Below G.heap.size G u') := fun G hG => sPut nl xo nn cc dk dr G hG nl' 0 hv
              have h4 : ¬ dr.toList = [] := fun e => hr (ba_list (e.trans empty_list.symm))
              have h5 : (dr.toList == ([] : List UInt8)) = false := by rw [beq_eq_false_iff_ne]; exact h4
              have h6 : (dr.toList == (⟨#[]⟩ : ByteArray).toList) = false := by rw [empty_list]; exact h5
              clear hv hr
              go_wp2_with fail
              refine wp_region_last (fun G => Below W9.heap.size W9 G) 17 hmix (belowDrew (unhide HIY2)) fun hS => ?_
              have HEY3 : Hid (El Y2.drew nl xo nn cc) := (unhide HEY2).below (belowDrew (Below.refl _ _))
              generalize Y2.drew = Y3 at hS HEY3 ⊢
              refine wpAnyL_take 0 199 (.slice xo nn cc) [] rfl rfl (by kernel_rfl) (by kernel_rfl) (by kernel_rfl) (by kernel_rfl) (by kernel_rfl) (fun _ _ _ h => h) (by rfl) (fun _ _ => by go_simp) hS ?_
              simp only [Act.put, List.setIfInBounds_toArray, List.set_cons_zero, List.set_cons_succ]
              refine wpAnyL_take 1 200 (.slice (some ⟨gl, ol, none⟩) kk lc) [] rfl rfl (by kernel_rfl) (by kernel_rfl) (by kernel_rfl) (by kernel_rfl) (by kernel_rfl) (fun _ _ _ h => h) (by rfl) (fun _ _ => by go_simp) hS ?_
              simp only [Act.put, List.setIfInBounds_toArray, List.set_cons_zero, List.set_cons_succ]
              refine wpAnyL_take 2 201 (.int .i64 (i : Int)) [] rfl rfl (by kernel_rfl) (by kernel_rfl) (by kernel_rfl) (by kernel_rfl) (by kernel_rfl) (fun _ _ _ h => h) (by rfl) (fun _ _ => by go_simp) hS ?_
              simp only [Act.put, List.setIfInBounds_toArray, List.set_cons_zero, List.set_cons_succ]
              refine wpAnyL_take 3 202 (.pointer (some ⟨gl, oo, none⟩)) [] rfl rfl (by kernel_rfl) (by kernel_rfl) (by kernel_rfl) (by kernel_rfl) (by kernel_rfl) (fun _ _ _ h => h) (by rfl) (fun _ _ => by go_simp) hS ?_
              simp only [Act.put, List.setIfInBounds_toArray, List.set_cons_zero, List.set_cons_succ]
              refine wpAnyL_take 4 203 (.pointer (some ⟨gl, oo, none⟩)) [] rfl rfl (by kernel_rfl) (by kernel_rfl) (by kernel_rfl) (by kernel_rfl) (by kernel_rfl) (fun _ _ _ h => h) (by rfl) (fun _ _ => by go_simp) hS ?_
              simp only [Act.put, List.setIfInBounds_toArray, List.set_cons_zero, List.set_cons_succ]
              refine wpAnyL_take 5 204 (.string dk) [] rfl rfl (by kernel_rfl) (by kernel_rfl) (by kernel_rfl) (by kernel_rfl) (by kernel_rfl) (fun _ _ _ h => h) (by rfl) (fun G hG => by obtain ⟨e0, e1, e2⟩ := unhide HCL G hG; go_simp) hS ?_
              simp only [Act.put, List.setIfInBounds_toArray, List.set_cons_zero, List.set_cons_succ]
              refine wpAnyL_take 6 205 (.slice (some ⟨gl, ol, none⟩) kk lc) [] rfl rfl (by kernel_rfl) (by kernel_rfl) (by kernel_rfl) (by kernel_rfl) (by kernel_rfl) (fun _ _ _ h => h) (by rfl) (fun _ _ => by go_simp) hS ?_
              simp only [Act.put, List.setIfInBounds_toArray, List.set_cons_zero, List.set_cons_succ]
              refine wpAnyL_take 7 206 (.int .i64 (i : Int)) [] rfl rfl (by kernel_rfl) (by kernel_rfl) (by kernel_rfl) (by kernel_rfl) (by kernel_rfl) (fun _ _ _ h => h) (by rfl) (fun _ _ => by go_simp) hS ?_
              simp only [Act.put, List.setIfInBounds_toArray, List.set_cons_zero, List.set_cons_succ]
              refine wpAnyL_take 8 207 (.pointer (some ⟨gl, oo, none⟩)) [] rfl rfl (by kernel_rfl) (by kernel_rfl) (by kernel_rfl) (by kernel_rfl) (by kernel_rfl) (fun _ _ _ h => h) (by rfl) (fun _ _ => by go_simp) hS ?_
              simp only [Act.put, List.setIfInBounds_toArray, List.set_cons_zero, List.set_cons_succ]
              refine wpAnyL_take 9 208 (.pointer (some ⟨gl, oo + 2, none⟩)) [] rfl rfl (by kernel_rfl) (by kernel_rfl) (by kernel_rfl) (by kernel_rfl) (by kernel_rfl) (fun _ _ _ h => h) (by rfl) (fun _ _ => by go_simp) hS ?_
              simp only [Act.put, List.setIfInBounds_toArray, List.set_cons_zero, List.set_cons_succ]
              refine wpAnyL_take 10 209 (.string dr) [] rfl rfl (by kernel_rfl) (by kernel_rfl) (by kernel_rfl) (by kernel_rfl) (by kernel_rfl) (fun _ _ _ h => h) (by rfl) (fun G hG => by obtain ⟨e0, e1, e2⟩ := unhide HCL G hG; go_simp) hS ?_
              simp only [Act.put, List.setIfInBounds_toArray, List.set_cons_zero, List.set_cons_succ]
              refine wpAnyL_take 11 210 (.agg #[.string dk, .string dr]) [] rfl rfl (by kernel_rfl) (by kernel_rfl) (by kernel_rfl) (by kernel_rfl) (by kernel_rfl) (fun _ _ _ h => h) (by rfl) (fun _ _ => by go_simp) hS ?_
              simp only [Act.put, List.setIfInBounds_toArray, List.set_cons_zero, List.set_cons_succ]
              refine wpAnyL_one (i := 12) (by kernel_rfl) rfl (by rfl) fun K hK => ?_
              refine wp_call_fn 33 _ _ (by rfl) #[.slice xo nn cc, .agg #[.string dk, .string dr]] (by with_unfolding_all rfl) entPT (some 211) (by rfl) _ (asP (unhide HPU Y3 (unhide HEY3))) ?_
              rintro _ Y4 ⟨x4, n4, c4, rfl, hk, ho, hb⟩
              have HI4 : Hid (Below W9.heap.size W9 Y4) := Below.step hS hb
              have HE4 : Hid (El Y4 nl' x4 n4 c4) := ⟨ho.at (unhide HNL), hk⟩
              clear hb ho hk hS HEY3
              refine hK _ _ (fun _ => unhide HI4) ?_
              clear hK K
              simp only [Act.put, List.setIfInBounds_toArray, List.set_cons_zero, List.set_cons_succ]
              refine wpAnyL_take 13 198 (.tuple #[.slice x4 n4 c4, .int .i64 0]) [] rfl rfl (by kernel_rfl) (by kernel_rfl) (by kernel_rfl) (by kernel_rfl) (by kernel_rfl) (fun _ _ _ h => h) (by rfl) (fun _ _ => by go_simp) (unhide HI4) ?_
              simp only [Act.put, List.setIfInBounds_toArray, List.set_cons_zero, List.set_cons_succ]
              refine wpAnyL_take 14 212 (.slice x4 n4 c4) [] rfl rfl (by kernel_rfl) (by kernel_rfl) (by kernel_rfl) (by kernel_rfl) (by kernel_rfl) (fun _ _ _ h => h) (by rfl) (fun _ _ => by go_simp) (unhide HI4) ?_
              simp only [Act.put, List.setIfInBounds_toArray, List.set_cons_zero, List.set_cons_succ]
              refine wpAnyL_take 15 213 (.int .i64 0) [] rfl rfl (by kernel_rfl) (by kernel_rfl) (by kernel_rfl) (by kernel_rfl) (by kernel_rfl) (fun _ _ _ h => h) (by rfl) (fun _ _ => by go_simp) (unhide HI4) ?_
              simp only [Act.put, List.setIfInBounds_toArray, List.set_cons_zero, List.set_cons_succ]
              refine wpAnyL_one (i := 16) (by kernel_rfl) rfl (by rfl) fun K hK => ?_
              refine wp_val (.slice x4 n4 c4) (by go_simp) (some 13) (by rfl) ?_
              refine hK _ _ (fun _ => unhide HI4) ?_
              clear hK K
              simp only [Act.put, List.setIfInBounds_toArray, List.set_cons_zero, List.set_cons_succ]
              refine wpAnyL_one (i := 17) (by kernel_rfl) rfl (by rfl) fun K hK => ?_
              refine wp_val (.int .i64 0) (by go_simp) (some 14) (by rfl) ?_
              refine hK _ _ (fun _ => unhide HI4) ?_
              clear hK K
              simp only [Act.put, List.setIfInBounds_toArray, List.set_cons_zero, List.set_cons_succ]
              refine wpAnyL_done (by kernel_rfl) ?_ _
              go_wp2
              go_roundw
              case rel => exact ⟨i + 1, n4, c4, x4, nl', by omega, by go_num, rfl, unhide HPS', unhide HE4, unhide HI4⟩
              case measure => simp [intOf]; omega
        · obtain rfl : i = kk := by omega
          have hki : ¬ (i : Int) < (i : Int) := by omega
          have hnb : nl = b := unhide HDN nl (by rw [← (unhide HL9).hn]; exact unhide HPS)
          subst hnb
          have HSF : Hid (Calls Try.prog 37 #[.slice xo nn cc, .slice bo m d] wr fun e u' => e = .returned (.bool true) ∧ Below wr.heap.size wr u') := by
            have h1 := qSame nl nl xo bo nn m cc d wr (unhide HE) ((unhide HB).below (Below.step (unhide HB9) (unhide HI)))
            rwa [decide_eq_true rfl] at h1
          go_wp2_with (first
            | (go_at_call 37; refine (unhide HSF).mono ?_; rintro e W20 ⟨rfl, hb⟩; have HB20 : Hid (Below u.heap.size u W20) := Below.step (unhide HB9) (Below.step (unhide HI) hb); clear hb)
            | fail)
          go_ret
          exact ⟨rfl, unhide HB20⟩
    · go_wp2
      go_ret
      exact ⟨rfl, unhide HBC⟩
end Go.Proofs.Ytbahlfpcbplofaa.S
