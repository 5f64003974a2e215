/- Segments: the law's merged. Written by mkshj.py. -/
import Derived.Test.YtbahlfpcbplofaaShj
namespace Go.Proofs.Ytbahlfpcbplofaa.S
open Go.RowKit Go.Lib

set_option maxRecDepth 100000 in
set_option maxHeartbeats 8000000 in
theorem lMerged (a : List It) (b : List UInt8) (ao bo : Option Addr) (n m c d : Nat) (u : World) (ha : Il u a ao n c) (hb : Ul u b bo m d) (hm : n + m ≤ 1099511627776) (dl : List To) (hv : (mgI a b).map toL = dl) : Calls Try.prog 40 #[.slice ao n c, .slice bo m d] u fun e u' => ∃ xo k c', e = .returned (.slice xo k c') ∧ k = dl.length ∧ RT.Own u' u.heap.size dl xo c' ∧ Below u.heap.size u u' := by
  have hmix : Try.prog.follows .mixedOrders = true := by kernel_rfl
  have HNA := hide ha.hn
  have HNB := hide hb.hn
  have hni : (n : Int) ≤ 1099511627776 := by omega
  have hmi : (m : Int) ≤ 1099511627776 := by omega
  have HD := hide hv
  have HDL : Hid (dl.length ≤ 1099511627776) := by
    rw [← hv, List.length_map]
    have e2 := mrg_len (f := fun x : It => x.1) (g := dg) a b
    have e3 := ha.hn
    have e4 := hb.hn
    exact Nat.le_trans e2 (by omega)
  have HCA : Hid (∀ i (hi : i < a.length), ∃ g o, ao = some ⟨g, o, none⟩ ∧ ∀ G : World, Below u.heap.size u G → G.cell? ⟨g, o + i * 2, none⟩ = some (.string a[i].1) ∧ G.cell? ⟨g, o + i * 2 + 1, none⟩ = some (.int .i64 a[i].2)) := fun i hi => by
    obtain ⟨g, o, e, _⟩ := ha.it hi
    refine ⟨g, o, e, fun G hG => ?_⟩
    obtain ⟨g', o', e', h3⟩ := (ha.below hG).it hi
    rw [e] at e'; cases e'; exact h3
  have HCB : Hid (∀ i (hi : i < b.length), ∃ g o, bo = some ⟨g, o, none⟩ ∧ ∀ G : World, Below u.heap.size u G → G.cell? ⟨g, o + i * 1, none⟩ = some (.int .u8 (b[i].toNat : Int))) := fun i hi => by
    obtain ⟨g, o, e, _⟩ := hb.un hi
    refine ⟨g, o, e, fun G hG => ?_⟩
    obtain ⟨g', o', e', h3⟩ := (hb.below hG).un hi
    rw [e] at e'; cases e'; exact h3
  clear ha hb hv hm
  go_enter Try.func40, Try.ntmps40
  go_wp2_with fail
  go_loopw [5, 6, 7] (fun so si sk wr => ∃ (i k m0 cc : Nat) (xo : Option Addr) (acc : List To), i ≤ n ∧ k ≤ m ∧ si = .int .i64 i ∧ sk = .int .i64 k ∧ so = .slice xo m0 cc ∧ Hid (m0 = acc.length) ∧ Hid (acc ++ (mgI (a.drop i) (b.drop k)).map toL = dl) ∧ Hid (RT.Own wr u.heap.size acc xo cc) ∧ Hid (Below u.heap.size u wr)) (fun _ si sk _ => (n - (intOf si).toNat) + (m - (intOf sk).toNat))
  case atStart => exact ⟨0, 0, 0, 0, none, [], Nat.zero_le _, Nat.zero_le _, rfl, rfl, rfl, rfl, unhide HD, Rec.Own.none _ _, Below.refl _ _⟩
  case round =>
    obtain ⟨i, k, m0, cc, xo, acc, hin, hkm, rfl, rfl, rfl, HML, HAC, HOwr, HIwr⟩ := hrel
    have HLL : Hid (∀ e : To, (acc.length + [e].length) * 56 ≤ 140737488355328) := fun e => by
      have e1 := MI.len (unhide HAC)
      have e2 := unhide HDL
      rw [List.length_singleton]; omega
    by_cases hi : i < n
    · have hii : (i : Int) < (n : Int) := by omega
      have hib : ((i : Int) == (n : Int)) = false := beq_false_of_ne (by omega)
      have hil : i < a.length := by rw [← unhide HNA]; exact hi
      by_cases hk : k < m
      · have hkk : (k : Int) < (m : Int) := by omega
        have hkl : k < b.length := by rw [← unhide HNB]; exact hk
        have hkb : ((k : Int) == (m : Int)) = false := beq_false_of_ne (by omega)
        obtain ⟨g, o, hao, HCA⟩ := unhide HCA i hil
        rw [hao] at *
        replace HCA := hide HCA
        have hix := ixI g o n c i hi
        obtain ⟨g2, o2, hbo, HCB⟩ := unhide HCB k hkl
        rw [hbo] at *
        replace HCB := hide HCB
        have hix2 := ixU g2 o2 m d k hk
        have HDG := hide (fun W => lDigit b[k] W)
        by_cases h1 : lt a[i].1 (dg b[k]) = true
        · have HN := hide (MI.left (unhide HAC) hil (.inr ⟨hkl, h1⟩))
          clear HAC
          unfold lt at h1
          generalize a[i] = x at *
          obtain ⟨xk, xn⟩ := x
          have HCA : Hid (∀ G : World, Below u.heap.size u G → G.cell? ⟨g, o + i * 2, none⟩ = some (.string xk) ∧ G.cell? ⟨g, o + i * 2 + 1, none⟩ = some (.int .i64 xn)) := HCA
          generalize o + i * 2 = oo at *
          generalize b[k] = y at *
          generalize dg y = yk at *
          generalize o2 + k * 1 = op at *
          have h1 : Op.bytesLess xk.toList yk.toList = true := h1
          have HN : Hid ((acc ++ [((xk, 1, (xk, xn), 0) : To)]) ++ (mgI (a.drop (i + 1)) (b.drop k)).map toL = dl) := HN
          go_wp2_with fail
          refine wp_region_last (fun G => Below u.heap.size u G) 23 hmix (belowDrew (unhide HIwr)) fun hS => ?_
          have HOY1 : Hid (RT.Own wr.drew u.heap.size acc xo cc) := (unhide HOwr).below (belowDrew (Below.refl _ _))
          generalize wr.drew = Y1 at hS HOY1 ⊢
          refine wpAnyL_take 0 40 (.int .i64 (k : Int)) [3, 4, 22] rfl rfl (by kernel_rfl) (by kernel_rfl) (by kernel_rfl) (by kernel_rfl) (by kernel_rfl) (fun _ _ _ h => h) (by rfl) (fun _ _ => by go_simp) hS ?_
          simp only [Act.put, List.setIfInBounds_toArray, List.set_cons_zero, List.set_cons_succ]
          refine wpAnyL_take 1 41 (.slice (some ⟨g2, o2, none⟩) m d) [2, 3, 4, 22] rfl rfl (by kernel_rfl) (by kernel_rfl) (by kernel_rfl) (by kernel_rfl) (by kernel_rfl) (fun _ _ _ h => h) (by rfl) (fun _ _ => by go_simp) hS ?_
          simp only [Act.put, List.setIfInBounds_toArray, List.set_cons_zero, List.set_cons_succ]
          refine wpAnyL_take 2 42 (.int .i64 (m : Int)) [3, 4, 22] rfl rfl (by kernel_rfl) (by kernel_rfl) (by kernel_rfl) (by kernel_rfl) (by kernel_rfl) (fun _ _ _ h => h) (by rfl) (fun _ _ => by go_simp) hS ?_
          simp only [Act.put, List.setIfInBounds_toArray, List.set_cons_zero, List.set_cons_succ]
          refine wpAnyL_take 3 43 (.bool false) [4, 22] rfl rfl (by kernel_rfl) (by kernel_rfl) (by kernel_rfl) (by kernel_rfl) (by kernel_rfl) (fun _ _ _ h => h) (by rfl) (fun _ _ => by go_simp) hS ?_
          simp only [Act.put, List.setIfInBounds_toArray, List.set_cons_zero, List.set_cons_succ]
          refine wpAnyL_take 4 44 (.bool false) [22] rfl rfl (by kernel_rfl) (by kernel_rfl) (by kernel_rfl) (by kernel_rfl) (by kernel_rfl) (fun _ _ _ h => h) (by rfl) (fun _ _ => by go_simp) hS ?_
          simp only [Act.put, List.setIfInBounds_toArray, List.set_cons_zero, List.set_cons_succ]
          refine wpAnyL_take 5 45 (.int .i64 (i : Int)) [8, 9, 19] rfl rfl (by kernel_rfl) (by kernel_rfl) (by kernel_rfl) (by kernel_rfl) (by kernel_rfl) (fun _ _ _ h => h) (by rfl) (fun _ _ => by go_simp) hS ?_
          simp only [Act.put, List.setIfInBounds_toArray, List.set_cons_zero, List.set_cons_succ]
          refine wpAnyL_take 6 46 (.slice (some ⟨g, o, none⟩) n c) [7, 8, 9, 19] rfl rfl (by kernel_rfl) (by kernel_rfl) (by kernel_rfl) (by kernel_rfl) (by kernel_rfl) (fun _ _ _ h => h) (by rfl) (fun _ _ => by go_simp) hS ?_
          simp only [Act.put, List.setIfInBounds_toArray, List.set_cons_zero, List.set_cons_succ]
          refine wpAnyL_take 7 47 (.int .i64 (n : Int)) [8, 9, 19] rfl rfl (by kernel_rfl) (by kernel_rfl) (by kernel_rfl) (by kernel_rfl) (by kernel_rfl) (fun _ _ _ h => h) (by rfl) (fun _ _ => by go_simp) hS ?_
          simp only [Act.put, List.setIfInBounds_toArray, List.set_cons_zero, List.set_cons_succ]
          refine wpAnyL_take 8 48 (.bool true) [9, 19] rfl rfl (by kernel_rfl) (by kernel_rfl) (by kernel_rfl) (by kernel_rfl) (by kernel_rfl) (fun _ _ _ h => h) (by rfl) (fun _ _ => by go_simp) hS ?_
          simp only [Act.put, List.setIfInBounds_toArray, List.set_cons_zero, List.set_cons_succ]
          refine wpAnyL_take 9 49 (.bool true) [19] rfl rfl (by kernel_rfl) (by kernel_rfl) (by kernel_rfl) (by kernel_rfl) (by kernel_rfl) (fun _ _ _ h => h) (by rfl) (fun _ _ => by go_simp) hS ?_
          simp only [Act.put, List.setIfInBounds_toArray, List.set_cons_zero, List.set_cons_succ]
          refine wpAnyL_take 10 50 (.slice (some ⟨g, o, none⟩) n c) [12, 13, 14, 20, 21, 22] rfl rfl (by kernel_rfl) (by kernel_rfl) (by kernel_rfl) (by kernel_rfl) (by kernel_rfl) (fun _ _ _ h => h) (by rfl) (fun _ _ => by go_simp) hS ?_
          simp only [Act.put, List.setIfInBounds_toArray, List.set_cons_zero, List.set_cons_succ]
          refine wpAnyL_take 11 51 (.int .i64 (i : Int)) [12, 13, 14, 20, 21, 22] rfl rfl (by kernel_rfl) (by kernel_rfl) (by kernel_rfl) (by kernel_rfl) (by kernel_rfl) (fun _ _ _ h => h) (by rfl) (fun _ _ => by go_simp) hS ?_
          simp only [Act.put, List.setIfInBounds_toArray, List.set_cons_zero, List.set_cons_succ]
          refine wpAnyL_take 12 52 (.pointer (some ⟨g, oo, none⟩)) [13, 14, 20, 21, 22] rfl rfl (by kernel_rfl) (by kernel_rfl) (by kernel_rfl) (by kernel_rfl) (by kernel_rfl) (fun _ _ _ h => h) (by rfl) (fun _ _ => by go_simp) hS ?_
          simp only [Act.put, List.setIfInBounds_toArray, List.set_cons_zero, List.set_cons_succ]
          refine wpAnyL_take 13 53 (.pointer (some ⟨g, oo, none⟩)) [14, 20, 21, 22] rfl rfl (by kernel_rfl) (by kernel_rfl) (by kernel_rfl) (by kernel_rfl) (by kernel_rfl) (fun _ _ _ h => h) (by rfl) (fun _ _ => by go_simp) hS ?_
          simp only [Act.put, List.setIfInBounds_toArray, List.set_cons_zero, List.set_cons_succ]
          refine wpAnyL_take 14 54 (.string xk) [20, 21, 22] rfl rfl (by kernel_rfl) (by kernel_rfl) (by kernel_rfl) (by kernel_rfl) (by kernel_rfl) (fun _ _ _ h => h) (by rfl) (fun G hG => by obtain ⟨e0, e1⟩ := unhide HCA G hG; go_simp) hS ?_
          simp only [Act.put, List.setIfInBounds_toArray, List.set_cons_zero, List.set_cons_succ]
          refine wpAnyL_take 15 55 (.slice (some ⟨g2, o2, none⟩) m d) [17, 18, 19] rfl rfl (by kernel_rfl) (by kernel_rfl) (by kernel_rfl) (by kernel_rfl) (by kernel_rfl) (fun _ _ _ h => h) (by rfl) (fun _ _ => by go_simp) hS ?_
          simp only [Act.put, List.setIfInBounds_toArray, List.set_cons_zero, List.set_cons_succ]
          refine wpAnyL_take 16 56 (.int .i64 (k : Int)) [17, 18, 19] rfl rfl (by kernel_rfl) (by kernel_rfl) (by kernel_rfl) (by kernel_rfl) (by kernel_rfl) (fun _ _ _ h => h) (by rfl) (fun _ _ => by go_simp) hS ?_
          simp only [Act.put, List.setIfInBounds_toArray, List.set_cons_zero, List.set_cons_succ]
          refine wpAnyL_take 17 57 (.pointer (some ⟨g2, op, none⟩)) [18, 19] rfl rfl (by kernel_rfl) (by kernel_rfl) (by kernel_rfl) (by kernel_rfl) (by kernel_rfl) (fun _ _ _ h => h) (by rfl) (fun _ _ => by go_simp) hS ?_
          simp only [Act.put, List.setIfInBounds_toArray, List.set_cons_zero, List.set_cons_succ]
          refine wpAnyL_take 18 58 (.int .u8 (y.toNat : Int)) [19] rfl rfl (by kernel_rfl) (by kernel_rfl) (by kernel_rfl) (by kernel_rfl) (by kernel_rfl) (fun _ _ _ h => h) (by rfl) (fun G hG => by have e0 := unhide HCB G hG; go_simp) hS ?_
          simp only [Act.put, List.setIfInBounds_toArray, List.set_cons_zero, List.set_cons_succ]
          refine wpAnyL_one (i := 19) (by kernel_rfl) rfl (by rfl) fun K hK => ?_
          refine wp_call_fn 43 _ _ (by rfl) #[.int .u8 (y.toNat : Int)] (by with_unfolding_all rfl) entDG (some 59) (by rfl) _ (asV (unhide HDG Y1)) ?_
          rintro _ wq ⟨rfl, hwq⟩
          obtain rfl := hwq.symm
          refine hK _ _ (fun _ => hS) ?_
          clear hK K
          simp only [Act.put, List.setIfInBounds_toArray, List.set_cons_zero, List.set_cons_succ]
          refine wpAnyL_take 20 60 (.bool true) [21, 22] rfl rfl (by kernel_rfl) (by kernel_rfl) (by kernel_rfl) (by kernel_rfl) (by kernel_rfl) (fun _ _ _ h => h) (by rfl) (fun _ _ => by go_simp) hS ?_
          simp only [Act.put, List.setIfInBounds_toArray, List.set_cons_zero, List.set_cons_succ]
          refine wpAnyL_take 21 61 (.bool true) [22] rfl rfl (by kernel_rfl) (by kernel_rfl) (by kernel_rfl) (by kernel_rfl) (by kernel_rfl) (fun _ _ _ h => h) (by rfl) (fun _ _ => by go_simp) hS ?_
          simp only [Act.put, List.setIfInBounds_toArray, List.set_cons_zero, List.set_cons_succ]
          refine wpAnyL_take 22 62 (.bool true) [] rfl rfl (by kernel_rfl) (by kernel_rfl) (by kernel_rfl) (by kernel_rfl) (by kernel_rfl) (fun _ _ _ h => h) (by rfl) (fun _ _ => by go_simp) hS ?_
          simp only [Act.put, List.setIfInBounds_toArray, List.set_cons_zero, List.set_cons_succ]
          refine wpAnyL_one (i := 23) (by kernel_rfl) rfl (by rfl) fun K hK => ?_
          refine wp_val (.bool true) (by go_simp) (some 39) (by rfl) ?_
          refine hK _ _ (fun _ => hS) ?_
          clear hK K
          simp only [Act.put, List.setIfInBounds_toArray, List.set_cons_zero, List.set_cons_succ]
          refine wpAnyL_done (by kernel_rfl) ?_ _
          have HIY1 := hide hS
          clear hS
          go_wp2_with fail
          refine wp_region_last (fun G => Below u.heap.size u G) 13 hmix (belowDrew (unhide HIY1)) fun hS => ?_
          have HO0 : Hid (RT.Own Y1.drew u.heap.size acc xo cc) := (unhide HOY1).below (belowDrew (Below.refl _ _))
          generalize Y1.drew = X0 at hS HO0 ⊢
          refine wpAnyL_take 0 63 (.slice xo m0 cc) [] rfl rfl (by kernel_rfl) (by kernel_rfl) (by kernel_rfl) (by kernel_rfl) (by kernel_rfl) (fun _ _ _ h => h) (by rfl) (fun _ _ => by go_simp) hS ?_
          simp only [Act.put, List.setIfInBounds_toArray, List.set_cons_zero, List.set_cons_succ]
          refine wpAnyL_take 1 64 (.slice (some ⟨g, o, none⟩) n c) [] rfl rfl (by kernel_rfl) (by kernel_rfl) (by kernel_rfl) (by kernel_rfl) (by kernel_rfl) (fun _ _ _ h => h) (by rfl) (fun _ _ => by go_simp) hS ?_
          simp only [Act.put, List.setIfInBounds_toArray, List.set_cons_zero, List.set_cons_succ]
          refine wpAnyL_take 2 65 (.int .i64 (i : Int)) [] rfl rfl (by kernel_rfl) (by kernel_rfl) (by kernel_rfl) (by kernel_rfl) (by kernel_rfl) (fun _ _ _ h => h) (by rfl) (fun _ _ => by go_simp) hS ?_
          simp only [Act.put, List.setIfInBounds_toArray, List.set_cons_zero, List.set_cons_succ]
          refine wpAnyL_take 3 66 (.pointer (some ⟨g, oo, none⟩)) [] rfl rfl (by kernel_rfl) (by kernel_rfl) (by kernel_rfl) (by kernel_rfl) (by kernel_rfl) (fun _ _ _ h => h) (by rfl) (fun _ _ => by go_simp) hS ?_
          simp only [Act.put, List.setIfInBounds_toArray, List.set_cons_zero, List.set_cons_succ]
          refine wpAnyL_take 4 67 (.pointer (some ⟨g, oo, none⟩)) [] rfl rfl (by kernel_rfl) (by kernel_rfl) (by kernel_rfl) (by kernel_rfl) (by kernel_rfl) (fun _ _ _ h => h) (by rfl) (fun _ _ => by go_simp) hS ?_
          simp only [Act.put, List.setIfInBounds_toArray, List.set_cons_zero, List.set_cons_succ]
          refine wpAnyL_take 5 68 (.string xk) [] rfl rfl (by kernel_rfl) (by kernel_rfl) (by kernel_rfl) (by kernel_rfl) (by kernel_rfl) (fun _ _ _ h => h) (by rfl) (fun G hG => by obtain ⟨e0, e1⟩ := unhide HCA G hG; go_simp) hS ?_
          simp only [Act.put, List.setIfInBounds_toArray, List.set_cons_zero, List.set_cons_succ]
          refine wpAnyL_take 6 69 (.slice (some ⟨g, o, none⟩) n c) [] rfl rfl (by kernel_rfl) (by kernel_rfl) (by kernel_rfl) (by kernel_rfl) (by kernel_rfl) (fun _ _ _ h => h) (by rfl) (fun _ _ => by go_simp) hS ?_
          simp only [Act.put, List.setIfInBounds_toArray, List.set_cons_zero, List.set_cons_succ]
          refine wpAnyL_take 7 70 (.int .i64 (i : Int)) [] rfl rfl (by kernel_rfl) (by kernel_rfl) (by kernel_rfl) (by kernel_rfl) (by kernel_rfl) (fun _ _ _ h => h) (by rfl) (fun _ _ => by go_simp) hS ?_
          simp only [Act.put, List.setIfInBounds_toArray, List.set_cons_zero, List.set_cons_succ]
          refine wpAnyL_take 8 71 (.pointer (some ⟨g, oo, none⟩)) [] rfl rfl (by kernel_rfl) (by kernel_rfl) (by kernel_rfl) (by kernel_rfl) (by kernel_rfl) (fun _ _ _ h => h) (by rfl) (fun _ _ => by go_simp) hS ?_
          simp only [Act.put, List.setIfInBounds_toArray, List.set_cons_zero, List.set_cons_succ]
          refine wpAnyL_take 9 72 (.agg #[.string xk, .int .i64 xn]) [] rfl rfl (by kernel_rfl) (by kernel_rfl) (by kernel_rfl) (by kernel_rfl) (by kernel_rfl) (fun _ _ _ h => h) (by rfl) (fun G hG => by obtain ⟨e0, e1⟩ := unhide HCA G hG; go_simp) hS ?_
          simp only [Act.put, List.setIfInBounds_toArray, List.set_cons_zero, List.set_cons_succ]
          refine wpAnyL_take 10 73 (.agg #[.string xk, .int .i64 1, .string xk, .int .i64 xn, .int .u8 0]) [] rfl rfl (by kernel_rfl) (by kernel_rfl) (by kernel_rfl) (by kernel_rfl) (by kernel_rfl) (fun _ _ _ h => h) (by rfl) (fun _ _ => by go_simp) hS ?_
          simp only [Act.put, List.setIfInBounds_toArray, List.set_cons_zero, List.set_cons_succ]
          refine wpAnyL_one (i := 11) (by kernel_rfl) rfl (by rfl) fun K hK => ?_
          refine wp_buildTo (by rfl) (.slice (some ⟨X0.heap.size, 0, none⟩) 1 1) (X0.alloc (.cells #[.string xk, .int .i64 1, .string xk, .int .i64 xn, .int .u8 0] 63)) (by simp only [List.map_toArray, List.map_cons, List.map_nil]; exact bsT X0 xk 1 xk xn 0) (some 74) (by rfl) ?_
          have HI1 : Hid (Below u.heap.size u (X0.alloc (.cells #[.string xk, .int .i64 1, .string xk, .int .i64 xn, .int .u8 0] 63))) := hS.alloc hS.size _
          have HO1 : Hid (RT.Own (X0.alloc (.cells #[.string xk, .int .i64 1, .string xk, .int .i64 xn, .int .u8 0] 63)) u.heap.size acc xo cc) := (unhide HO0).below ((Below.refl _ _).alloc (Nat.le_refl _) _)
          have HA1 : Hid (RT.At (X0.alloc (.cells #[.string xk, .int .i64 1, .string xk, .int .i64 xn, .int .u8 0] 63)) [((xk, 1, (xk, xn), 0) : To)] (some ⟨X0.heap.size, 0, none⟩) 1) := RT.one X0 xk 1 xk xn 0 _
          refine hK _ _ (fun _ => unhide HI1) ?_
          clear hK K
          simp only [Act.put, List.setIfInBounds_toArray, List.set_cons_zero, List.set_cons_succ]
          generalize X0.alloc (.cells #[.string xk, .int .i64 1, .string xk, .int .i64 xn, .int .u8 0] 63) = X1 at HI1 HO1 HA1 ⊢
          refine wpAnyL_one (i := 12) (by kernel_rfl) rfl (by rfl) fun K hK => ?_
          refine wp_putT (.tmp 63) (.tmp 74) (by rfl) (some 75) (by rfl) u.heap.size acc [((xk, 1, (xk, xn), 0) : To)] m0 1 (unhide HML) rfl xo (some ⟨X0.heap.size, 0, none⟩) cc 1 (by with_unfolding_all rfl) (by with_unfolding_all rfl) (unhide HO1) (unhide HA1) (unhide HLL ((xk, 1, (xk, xn), 0) : To)) (unhide HI1).size ?_
          intro x4 n4 c4 X4 HP4
          have HI4 : Hid (Below u.heap.size u X4) := (unhide HI1).trans (unhide HP4).below
          refine hK _ _ (fun _ => unhide HI4) ?_
          clear hK K
          simp only [Act.put, List.setIfInBounds_toArray, List.set_cons_zero, List.set_cons_succ]
          refine wpAnyL_one (i := 13) (by kernel_rfl) rfl (by rfl) fun K hK => ?_
          refine wp_val (.slice x4 n4 c4) (by go_simp) (some 5) (by rfl) ?_
          refine hK _ _ (fun _ => unhide HI4) ?_
          clear hK K
          simp only [Act.put, List.setIfInBounds_toArray, List.set_cons_zero, List.set_cons_succ]
          refine wpAnyL_done (by kernel_rfl) ?_ _
          go_wp2
          go_roundw
          case rel => exact ⟨i + 1, k, n4, c4, x4, acc ++ [((xk, 1, (xk, xn), 0) : To)], by omega, hkm, by go_num, rfl, rfl, (unhide HP4).len, unhide HN, (unhide HP4).own, unhide HI4⟩
          case measure => simp [intOf]; omega
        · rw [Bool.not_eq_true] at h1
          by_cases h2 : lt (dg b[k]) a[i].1 = true
          · have HN := hide (MI.right (unhide HAC) hkl (.inr ⟨hil, h2⟩))
            clear HAC
            unfold lt at h1 h2
            generalize a[i] = x at *
            obtain ⟨xk, xn⟩ := x
            have HCA : Hid (∀ G : World, Below u.heap.size u G → G.cell? ⟨g, o + i * 2, none⟩ = some (.string xk) ∧ G.cell? ⟨g, o + i * 2 + 1, none⟩ = some (.int .i64 xn)) := HCA
            generalize o + i * 2 = oo at *
            generalize b[k] = y at *
            generalize dg y = yk at *
            generalize o2 + k * 1 = op at *
            have h1 : Op.bytesLess xk.toList yk.toList = false := h1
            have h2 : Op.bytesLess yk.toList xk.toList = true := h2
            have HN : Hid ((acc ++ [((yk, 2, ((⟨#[]⟩ : ByteArray), 0), y) : To)]) ++ (mgI (a.drop i) (b.drop (k + 1))).map toL = dl) := HN
            go_wp2_with fail
            refine wp_region_last (fun G => Below u.heap.size u G) 23 hmix (belowDrew (unhide HIwr)) fun hS => ?_
            have HOY1 : Hid (RT.Own wr.drew u.heap.size acc xo cc) := (unhide HOwr).below (belowDrew (Below.refl _ _))
            generalize wr.drew = Y1 at hS HOY1 ⊢
            refine wpAnyL_take 0 40 (.int .i64 (k : Int)) [3, 4, 22] rfl rfl (by kernel_rfl) (by kernel_rfl) (by kernel_rfl) (by kernel_rfl) (by kernel_rfl) (fun _ _ _ h => h) (by rfl) (fun _ _ => by go_simp) hS ?_
            simp only [Act.put, List.setIfInBounds_toArray, List.set_cons_zero, List.set_cons_succ]
            refine wpAnyL_take 1 41 (.slice (some ⟨g2, o2, none⟩) m d) [2, 3, 4, 22] rfl rfl (by kernel_rfl) (by kernel_rfl) (by kernel_rfl) (by kernel_rfl) (by kernel_rfl) (fun _ _ _ h => h) (by rfl) (fun _ _ => by go_simp) hS ?_
            simp only [Act.put, List.setIfInBounds_toArray, List.set_cons_zero, List.set_cons_succ]
            refine wpAnyL_take 2 42 (.int .i64 (m : Int)) [3, 4, 22] rfl rfl (by kernel_rfl) (by kernel_rfl) (by kernel_rfl) (by kernel_rfl) (by kernel_rfl) (fun _ _ _ h => h) (by rfl) (fun _ _ => by go_simp) hS ?_
            simp only [Act.put, List.setIfInBounds_toArray, List.set_cons_zero, List.set_cons_succ]
            refine wpAnyL_take 3 43 (.bool false) [4, 22] rfl rfl (by kernel_rfl) (by kernel_rfl) (by kernel_rfl) (by kernel_rfl) (by kernel_rfl) (fun _ _ _ h => h) (by rfl) (fun _ _ => by go_simp) hS ?_
            simp only [Act.put, List.setIfInBounds_toArray, List.set_cons_zero, List.set_cons_succ]
            refine wpAnyL_take 4 44 (.bool false) [22] rfl rfl (by kernel_rfl) (by kernel_rfl) (by kernel_rfl) (by kernel_rfl) (by kernel_rfl) (fun _ _ _ h => h) (by rfl) (fun _ _ => by go_simp) hS ?_
            simp only [Act.put, List.setIfInBounds_toArray, List.set_cons_zero, List.set_cons_succ]
            refine wpAnyL_take 5 45 (.int .i64 (i : Int)) [8, 9, 19] rfl rfl (by kernel_rfl) (by kernel_rfl) (by kernel_rfl) (by kernel_rfl) (by kernel_rfl) (fun _ _ _ h => h) (by rfl) (fun _ _ => by go_simp) hS ?_
            simp only [Act.put, List.setIfInBounds_toArray, List.set_cons_zero, List.set_cons_succ]
            refine wpAnyL_take 6 46 (.slice (some ⟨g, o, none⟩) n c) [7, 8, 9, 19] rfl rfl (by kernel_rfl) (by kernel_rfl) (by kernel_rfl) (by kernel_rfl) (by kernel_rfl) (fun _ _ _ h => h) (by rfl) (fun _ _ => by go_simp) hS ?_
            simp only [Act.put, List.setIfInBounds_toArray, List.set_cons_zero, List.set_cons_succ]
            refine wpAnyL_take 7 47 (.int .i64 (n : Int)) [8, 9, 19] rfl rfl (by kernel_rfl) (by kernel_rfl) (by kernel_rfl) (by kernel_rfl) (by kernel_rfl) (fun _ _ _ h => h) (by rfl) (fun _ _ => by go_simp) hS ?_
            simp only [Act.put, List.setIfInBounds_toArray, List.set_cons_zero, List.set_cons_succ]
            refine wpAnyL_take 8 48 (.bool true) [9, 19] rfl rfl (by kernel_rfl) (by kernel_rfl) (by kernel_rfl) (by kernel_rfl) (by kernel_rfl) (fun _ _ _ h => h) (by rfl) (fun _ _ => by go_simp) hS ?_
            simp only [Act.put, List.setIfInBounds_toArray, List.set_cons_zero, List.set_cons_succ]
            refine wpAnyL_take 9 49 (.bool true) [19] rfl rfl (by kernel_rfl) (by kernel_rfl) (by kernel_rfl) (by kernel_rfl) (by kernel_rfl) (fun _ _ _ h => h) (by rfl) (fun _ _ => by go_simp) hS ?_
            simp only [Act.put, List.setIfInBounds_toArray, List.set_cons_zero, List.set_cons_succ]
            refine wpAnyL_take 10 50 (.slice (some ⟨g, o, none⟩) n c) [12, 13, 14, 20, 21, 22] rfl rfl (by kernel_rfl) (by kernel_rfl) (by kernel_rfl) (by kernel_rfl) (by kernel_rfl) (fun _ _ _ h => h) (by rfl) (fun _ _ => by go_simp) hS ?_
            simp only [Act.put, List.setIfInBounds_toArray, List.set_cons_zero, List.set_cons_succ]
            refine wpAnyL_take 11 51 (.int .i64 (i : Int)) [12, 13, 14, 20, 21, 22] rfl rfl (by kernel_rfl) (by kernel_rfl) (by kernel_rfl) (by kernel_rfl) (by kernel_rfl) (fun _ _ _ h => h) (by rfl) (fun _ _ => by go_simp) hS ?_
            simp only [Act.put, List.setIfInBounds_toArray, List.set_cons_zero, List.set_cons_succ]
            refine wpAnyL_take 12 52 (.pointer (some ⟨g, oo, none⟩)) [13, 14, 20, 21, 22] rfl rfl (by kernel_rfl) (by kernel_rfl) (by kernel_rfl) (by kernel_rfl) (by kernel_rfl) (fun _ _ _ h => h) (by rfl) (fun _ _ => by go_simp) hS ?_
            simp only [Act.put, List.setIfInBounds_toArray, List.set_cons_zero, List.set_cons_succ]
            refine wpAnyL_take 13 53 (.pointer (some ⟨g, oo, none⟩)) [14, 20, 21, 22] rfl rfl (by kernel_rfl) (by kernel_rfl) (by kernel_rfl) (by kernel_rfl) (by kernel_rfl) (fun _ _ _ h => h) (by rfl) (fun _ _ => by go_simp) hS ?_
            simp only [Act.put, List.setIfInBounds_toArray, List.set_cons_zero, List.set_cons_succ]
            refine wpAnyL_take 14 54 (.string xk) [20, 21, 22] rfl rfl (by kernel_rfl) (by kernel_rfl) (by kernel_rfl) (by kernel_rfl) (by kernel_rfl) (fun _ _ _ h => h) (by rfl) (fun G hG => by obtain ⟨e0, e1⟩ := unhide HCA G hG; go_simp) hS ?_
            simp only [Act.put, List.setIfInBounds_toArray, List.set_cons_zero, List.set_cons_succ]
            refine wpAnyL_take 15 55 (.slice (some ⟨g2, o2, none⟩) m d) [17, 18, 19] rfl rfl (by kernel_rfl) (by kernel_rfl) (by kernel_rfl) (by kernel_rfl) (by kernel_rfl) (fun _ _ _ h => h) (by rfl) (fun _ _ => by go_simp) hS ?_
            simp only [Act.put, List.setIfInBounds_toArray, List.set_cons_zero, List.set_cons_succ]
            refine wpAnyL_take 16 56 (.int .i64 (k : Int)) [17, 18, 19] rfl rfl (by kernel_rfl) (by kernel_rfl) (by kernel_rfl) (by kernel_rfl) (by kernel_rfl) (fun _ _ _ h => h) (by rfl) (fun _ _ => by go_simp) hS ?_
            simp only [Act.put, List.setIfInBounds_toArray, List.set_cons_zero, List.set_cons_succ]
            refine wpAnyL_take 17 57 (.pointer (some ⟨g2, op, none⟩)) [18, 19] rfl rfl (by kernel_rfl) (by kernel_rfl) (by kernel_rfl) (by kernel_rfl) (by kernel_rfl) (fun _ _ _ h => h) (by rfl) (fun _ _ => by go_simp) hS ?_
            simp only [Act.put, List.setIfInBounds_toArray, List.set_cons_zero, List.set_cons_succ]
            refine wpAnyL_take 18 58 (.int .u8 (y.toNat : Int)) [19] rfl rfl (by kernel_rfl) (by kernel_rfl) (by kernel_rfl) (by kernel_rfl) (by kernel_rfl) (fun _ _ _ h => h) (by rfl) (fun G hG => by have e0 := unhide HCB G hG; go_simp) hS ?_
            simp only [Act.put, List.setIfInBounds_toArray, List.set_cons_zero, List.set_cons_succ]
            refine wpAnyL_one (i := 19) (by kernel_rfl) rfl (by rfl) fun K hK => ?_
            refine wp_call_fn 43 _ _ (by rfl) #[.int .u8 (y.toNat : Int)] (by with_unfolding_all rfl) entDG (some 59) (by rfl) _ (asV (unhide HDG Y1)) ?_
            rintro _ wq ⟨rfl, hwq⟩
            obtain rfl := hwq.symm
            refine hK _ _ (fun _ => hS) ?_
            clear hK K
            simp only [Act.put, List.setIfInBounds_toArray, List.set_cons_zero, List.set_cons_succ]
            refine wpAnyL_take 20 60 (.bool false) [21, 22] rfl rfl (by kernel_rfl) (by kernel_rfl) (by kernel_rfl) (by kernel_rfl) (by kernel_rfl) (fun _ _ _ h => h) (by rfl) (fun _ _ => by go_simp) hS ?_
            simp only [Act.put, List.setIfInBounds_toArray, List.set_cons_zero, List.set_cons_succ]
            refine wpAnyL_take 21 61 (.bool false) [22] rfl rfl (by kernel_rfl) (by kernel_rfl) (by kernel_rfl) (by kernel_rfl) (by kernel_rfl) (fun _ _ _ h => h) (by rfl) (fun _ _ => by go_simp) hS ?_
            simp only [Act.put, List.setIfInBounds_toArray, List.set_cons_zero, List.set_cons_succ]
            refine wpAnyL_take 22 62 (.bool false) [] rfl rfl (by kernel_rfl) (by kernel_rfl) (by kernel_rfl) (by kernel_rfl) (by kernel_rfl) (fun _ _ _ h => h) (by rfl) (fun _ _ => by go_simp) hS ?_
            simp only [Act.put, List.setIfInBounds_toArray, List.set_cons_zero, List.set_cons_succ]
            refine wpAnyL_one (i := 23) (by kernel_rfl) rfl (by rfl) fun K hK => ?_
            refine wp_val (.bool false) (by go_simp) (some 39) (by rfl) ?_
            refine hK _ _ (fun _ => hS) ?_
            clear hK K
            simp only [Act.put, List.setIfInBounds_toArray, List.set_cons_zero, List.set_cons_succ]
            refine wpAnyL_done (by kernel_rfl) ?_ _
            have HIY1 := hide hS
            clear hS
            go_wp2_with fail
            refine wp_region_last (fun G => Below u.heap.size u G) 17 hmix (belowDrew (unhide HIY1)) fun hS => ?_
            have HOY2 : Hid (RT.Own Y1.drew u.heap.size acc xo cc) := (unhide HOY1).below (belowDrew (Below.refl _ _))
            generalize Y1.drew = Y2 at hS HOY2 ⊢
            refine wpAnyL_take 0 79 (.int .i64 (i : Int)) [3, 4, 9] rfl rfl (by kernel_rfl) (by kernel_rfl) (by kernel_rfl) (by kernel_rfl) (by kernel_rfl) (fun _ _ _ h => h) (by rfl) (fun _ _ => by go_simp) hS ?_
            simp only [Act.put, List.setIfInBounds_toArray, List.set_cons_zero, List.set_cons_succ]
            refine wpAnyL_take 1 80 (.slice (some ⟨g, o, none⟩) n c) [2, 3, 4, 9] rfl rfl (by kernel_rfl) (by kernel_rfl) (by kernel_rfl) (by kernel_rfl) (by kernel_rfl) (fun _ _ _ h => h) (by rfl) (fun _ _ => by go_simp) hS ?_
            simp only [Act.put, List.setIfInBounds_toArray, List.set_cons_zero, List.set_cons_succ]
            refine wpAnyL_take 2 81 (.int .i64 (n : Int)) [3, 4, 9] rfl rfl (by kernel_rfl) (by kernel_rfl) (by kernel_rfl) (by kernel_rfl) (by kernel_rfl) (fun _ _ _ h => h) (by rfl) (fun _ _ => by go_simp) hS ?_
            simp only [Act.put, List.setIfInBounds_toArray, List.set_cons_zero, List.set_cons_succ]
            refine wpAnyL_take 3 82 (.bool false) [4, 9] rfl rfl (by kernel_rfl) (by kernel_rfl) (by kernel_rfl) (by kernel_rfl) (by kernel_rfl) (fun _ _ _ h => h) (by rfl) (fun _ _ => by go_simp) hS ?_
            simp only [Act.put, List.setIfInBounds_toArray, List.set_cons_zero, List.set_cons_succ]
            refine wpAnyL_take 4 83 (.bool false) [9] rfl rfl (by kernel_rfl) (by kernel_rfl) (by kernel_rfl) (by kernel_rfl) (by kernel_rfl) (fun _ _ _ h => h) (by rfl) (fun _ _ => by go_simp) hS ?_
            simp only [Act.put, List.setIfInBounds_toArray, List.set_cons_zero, List.set_cons_succ]
            refine wpAnyL_take 5 84 (.slice (some ⟨g2, o2, none⟩) m d) [7, 8, 9] rfl rfl (by kernel_rfl) (by kernel_rfl) (by kernel_rfl) (by kernel_rfl) (by kernel_rfl) (fun _ _ _ h => h) (by rfl) (fun _ _ => by go_simp) hS ?_
            simp only [Act.put, List.setIfInBounds_toArray, List.set_cons_zero, List.set_cons_succ]
            refine wpAnyL_take 6 85 (.int .i64 (k : Int)) [7, 8, 9] rfl rfl (by kernel_rfl) (by kernel_rfl) (by kernel_rfl) (by kernel_rfl) (by kernel_rfl) (fun _ _ _ h => h) (by rfl) (fun _ _ => by go_simp) hS ?_
            simp only [Act.put, List.setIfInBounds_toArray, List.set_cons_zero, List.set_cons_succ]
            refine wpAnyL_take 7 86 (.pointer (some ⟨g2, op, none⟩)) [8, 9] rfl rfl (by kernel_rfl) (by kernel_rfl) (by kernel_rfl) (by kernel_rfl) (by kernel_rfl) (fun _ _ _ h => h) (by rfl) (fun _ _ => by go_simp) hS ?_
            simp only [Act.put, List.setIfInBounds_toArray, List.set_cons_zero, List.set_cons_succ]
            refine wpAnyL_take 8 87 (.int .u8 (y.toNat : Int)) [9] rfl rfl (by kernel_rfl) (by kernel_rfl) (by kernel_rfl) (by kernel_rfl) (by kernel_rfl) (fun _ _ _ h => h) (by rfl) (fun G hG => by have e0 := unhide HCB G hG; go_simp) hS ?_
            simp only [Act.put, List.setIfInBounds_toArray, List.set_cons_zero, List.set_cons_succ]
            refine wpAnyL_take 10 89 (.slice (some ⟨g, o, none⟩) n c) [12, 13, 14, 15, 16] rfl rfl (by kernel_rfl) (by kernel_rfl) (by kernel_rfl) (by kernel_rfl) (by kernel_rfl) (fun _ _ _ h => h) (by rfl) (fun _ _ => by go_simp) hS ?_
            simp only [Act.put, List.setIfInBounds_toArray, List.set_cons_zero, List.set_cons_succ]
            refine wpAnyL_take 11 90 (.int .i64 (i : Int)) [12, 13, 14, 15, 16] rfl rfl (by kernel_rfl) (by kernel_rfl) (by kernel_rfl) (by kernel_rfl) (by kernel_rfl) (fun _ _ _ h => h) (by rfl) (fun _ _ => by go_simp) hS ?_
            simp only [Act.put, List.setIfInBounds_toArray, List.set_cons_zero, List.set_cons_succ]
            refine wpAnyL_take 12 91 (.pointer (some ⟨g, oo, none⟩)) [13, 14, 15, 16] rfl rfl (by kernel_rfl) (by kernel_rfl) (by kernel_rfl) (by kernel_rfl) (by kernel_rfl) (fun _ _ _ h => h) (by rfl) (fun _ _ => by go_simp) hS ?_
            simp only [Act.put, List.setIfInBounds_toArray, List.set_cons_zero, List.set_cons_succ]
            refine wpAnyL_take 13 92 (.pointer (some ⟨g, oo, none⟩)) [14, 15, 16] rfl rfl (by kernel_rfl) (by kernel_rfl) (by kernel_rfl) (by kernel_rfl) (by kernel_rfl) (fun _ _ _ h => h) (by rfl) (fun _ _ => by go_simp) hS ?_
            simp only [Act.put, List.setIfInBounds_toArray, List.set_cons_zero, List.set_cons_succ]
            refine wpAnyL_take 14 93 (.string xk) [15, 16] rfl rfl (by kernel_rfl) (by kernel_rfl) (by kernel_rfl) (by kernel_rfl) (by kernel_rfl) (fun _ _ _ h => h) (by rfl) (fun G hG => by obtain ⟨e0, e1⟩ := unhide HCA G hG; go_simp) hS ?_
            simp only [Act.put, List.setIfInBounds_toArray, List.set_cons_zero, List.set_cons_succ]
            refine wpAnyL_one (i := 9) (by kernel_rfl) rfl (by rfl) fun K hK => ?_
            refine wp_call_fn 43 _ _ (by rfl) #[.int .u8 (y.toNat : Int)] (by with_unfolding_all rfl) entDG (some 88) (by rfl) _ (asV (unhide HDG Y2)) ?_
            rintro _ wq ⟨rfl, hwq⟩
            obtain rfl := hwq.symm
            refine hK _ _ (fun _ => hS) ?_
            clear hK K
            simp only [Act.put, List.setIfInBounds_toArray, List.set_cons_zero, List.set_cons_succ]
            refine wpAnyL_take 15 94 (.bool true) [16] rfl rfl (by kernel_rfl) (by kernel_rfl) (by kernel_rfl) (by kernel_rfl) (by kernel_rfl) (fun _ _ _ h => h) (by rfl) (fun _ _ => by go_simp) hS ?_
            simp only [Act.put, List.setIfInBounds_toArray, List.set_cons_zero, List.set_cons_succ]
            refine wpAnyL_take 16 95 (.bool true) [] rfl rfl (by kernel_rfl) (by kernel_rfl) (by kernel_rfl) (by kernel_rfl) (by kernel_rfl) (fun _ _ _ h => h) (by rfl) (fun _ _ => by go_simp) hS ?_
            simp only [Act.put, List.setIfInBounds_toArray, List.set_cons_zero, List.set_cons_succ]
            refine wpAnyL_one (i := 17) (by kernel_rfl) rfl (by rfl) fun K hK => ?_
            refine wp_val (.bool true) (by go_simp) (some 78) (by rfl) ?_
            refine hK _ _ (fun _ => hS) ?_
            clear hK K
            simp only [Act.put, List.setIfInBounds_toArray, List.set_cons_zero, List.set_cons_succ]
            refine wpAnyL_done (by kernel_rfl) ?_ _
            have HIY2 := hide hS
            clear hS
            go_wp2_with fail
            refine wp_region_last (fun G => Below u.heap.size u G) 14 hmix (belowDrew (unhide HIY2)) fun hS => ?_
            have HO0 : Hid (RT.Own Y2.drew u.heap.size acc xo cc) := (unhide HOY2).below (belowDrew (Below.refl _ _))
            generalize Y2.drew = X0 at hS HO0 ⊢
            refine wpAnyL_take 0 96 (.slice xo m0 cc) [] rfl rfl (by kernel_rfl) (by kernel_rfl) (by kernel_rfl) (by kernel_rfl) (by kernel_rfl) (fun _ _ _ h => h) (by rfl) (fun _ _ => by go_simp) hS ?_
            simp only [Act.put, List.setIfInBounds_toArray, List.set_cons_zero, List.set_cons_succ]
            refine wpAnyL_take 1 97 (.slice (some ⟨g2, o2, none⟩) m d) [] rfl rfl (by kernel_rfl) (by kernel_rfl) (by kernel_rfl) (by kernel_rfl) (by kernel_rfl) (fun _ _ _ h => h) (by rfl) (fun _ _ => by go_simp) hS ?_
            simp only [Act.put, List.setIfInBounds_toArray, List.set_cons_zero, List.set_cons_succ]
            refine wpAnyL_take 2 98 (.int .i64 (k : Int)) [] rfl rfl (by kernel_rfl) (by kernel_rfl) (by kernel_rfl) (by kernel_rfl) (by kernel_rfl) (fun _ _ _ h => h) (by rfl) (fun _ _ => by go_simp) hS ?_
            simp only [Act.put, List.setIfInBounds_toArray, List.set_cons_zero, List.set_cons_succ]
            refine wpAnyL_take 3 99 (.pointer (some ⟨g2, op, none⟩)) [] rfl rfl (by kernel_rfl) (by kernel_rfl) (by kernel_rfl) (by kernel_rfl) (by kernel_rfl) (fun _ _ _ h => h) (by rfl) (fun _ _ => by go_simp) hS ?_
            simp only [Act.put, List.setIfInBounds_toArray, List.set_cons_zero, List.set_cons_succ]
            refine wpAnyL_take 4 100 (.int .u8 (y.toNat : Int)) [] rfl rfl (by kernel_rfl) (by kernel_rfl) (by kernel_rfl) (by kernel_rfl) (by kernel_rfl) (fun _ _ _ h => h) (by rfl) (fun G hG => by have e0 := unhide HCB G hG; go_simp) hS ?_
            simp only [Act.put, List.setIfInBounds_toArray, List.set_cons_zero, List.set_cons_succ]
            refine wpAnyL_take 6 102 (.agg #[.string ⟨#[]⟩, .int .i64 0]) [] rfl rfl (by kernel_rfl) (by kernel_rfl) (by kernel_rfl) (by kernel_rfl) (by kernel_rfl) (fun _ _ _ h => h) (by rfl) (fun _ _ => by go_simp) hS ?_
            simp only [Act.put, List.setIfInBounds_toArray, List.set_cons_zero, List.set_cons_succ]
            refine wpAnyL_take 7 103 (.slice (some ⟨g2, o2, none⟩) m d) [] rfl rfl (by kernel_rfl) (by kernel_rfl) (by kernel_rfl) (by kernel_rfl) (by kernel_rfl) (fun _ _ _ h => h) (by rfl) (fun _ _ => by go_simp) hS ?_
            simp only [Act.put, List.setIfInBounds_toArray, List.set_cons_zero, List.set_cons_succ]
            refine wpAnyL_take 8 104 (.int .i64 (k : Int)) [] rfl rfl (by kernel_rfl) (by kernel_rfl) (by kernel_rfl) (by kernel_rfl) (by kernel_rfl) (fun _ _ _ h => h) (by rfl) (fun _ _ => by go_simp) hS ?_
            simp only [Act.put, List.setIfInBounds_toArray, List.set_cons_zero, List.set_cons_succ]
            refine wpAnyL_take 9 105 (.pointer (some ⟨g2, op, none⟩)) [] rfl rfl (by kernel_rfl) (by kernel_rfl) (by kernel_rfl) (by kernel_rfl) (by kernel_rfl) (fun _ _ _ h => h) (by rfl) (fun _ _ => by go_simp) hS ?_
            simp only [Act.put, List.setIfInBounds_toArray, List.set_cons_zero, List.set_cons_succ]
            refine wpAnyL_take 10 106 (.int .u8 (y.toNat : Int)) [] rfl rfl (by kernel_rfl) (by kernel_rfl) (by kernel_rfl) (by kernel_rfl) (by kernel_rfl) (fun _ _ _ h => h) (by rfl) (fun G hG => by have e0 := unhide HCB G hG; go_simp) hS ?_
            simp only [Act.put, List.setIfInBounds_toArray, List.set_cons_zero, List.set_cons_succ]
            refine wpAnyL_one (i := 5) (by kernel_rfl) rfl (by rfl) fun K hK => ?_
            refine wp_call_fn 43 _ _ (by rfl) #[.int .u8 (y.toNat : Int)] (by with_unfolding_all rfl) entDG (some 101) (by rfl) _ (asV (unhide HDG X0)) ?_
            rintro _ wq ⟨rfl, hwq⟩
            obtain rfl := hwq.symm
            refine hK _ _ (fun _ => hS) ?_
            clear hK K
            simp only [Act.put, List.setIfInBounds_toArray, List.set_cons_zero, List.set_cons_succ]
            refine wpAnyL_take 11 107 (.agg #[.string yk, .int .i64 2, .string ⟨#[]⟩, .int .i64 0, .int .u8 (y.toNat : Int)]) [] rfl rfl (by kernel_rfl) (by kernel_rfl) (by kernel_rfl) (by kernel_rfl) (by kernel_rfl) (fun _ _ _ h => h) (by rfl) (fun _ _ => by go_simp) hS ?_
            simp only [Act.put, List.setIfInBounds_toArray, List.set_cons_zero, List.set_cons_succ]
            refine wpAnyL_one (i := 12) (by kernel_rfl) rfl (by rfl) fun K hK => ?_
            refine wp_buildTo (by rfl) (.slice (some ⟨X0.heap.size, 0, none⟩) 1 1) (X0.alloc (.cells #[.string yk, .int .i64 2, .string ⟨#[]⟩, .int .i64 0, .int .u8 (y.toNat : Int)] 63)) (by simp only [List.map_toArray, List.map_cons, List.map_nil]; exact bsT X0 yk 2 ⟨#[]⟩ 0 (y.toNat : Int)) (some 108) (by rfl) ?_
            have HI1 : Hid (Below u.heap.size u (X0.alloc (.cells #[.string yk, .int .i64 2, .string ⟨#[]⟩, .int .i64 0, .int .u8 (y.toNat : Int)] 63))) := hS.alloc hS.size _
            have HO1 : Hid (RT.Own (X0.alloc (.cells #[.string yk, .int .i64 2, .string ⟨#[]⟩, .int .i64 0, .int .u8 (y.toNat : Int)] 63)) u.heap.size acc xo cc) := (unhide HO0).below ((Below.refl _ _).alloc (Nat.le_refl _) _)
            have HA1 : Hid (RT.At (X0.alloc (.cells #[.string yk, .int .i64 2, .string ⟨#[]⟩, .int .i64 0, .int .u8 (y.toNat : Int)] 63)) [((yk, 2, ((⟨#[]⟩ : ByteArray), 0), y) : To)] (some ⟨X0.heap.size, 0, none⟩) 1) := RT.one X0 yk 2 ⟨#[]⟩ 0 y _
            refine hK _ _ (fun _ => unhide HI1) ?_
            clear hK K
            simp only [Act.put, List.setIfInBounds_toArray, List.set_cons_zero, List.set_cons_succ]
            generalize X0.alloc (.cells #[.string yk, .int .i64 2, .string ⟨#[]⟩, .int .i64 0, .int .u8 (y.toNat : Int)] 63) = X1 at HI1 HO1 HA1 ⊢
            refine wpAnyL_one (i := 13) (by kernel_rfl) rfl (by rfl) fun K hK => ?_
            refine wp_putT (.tmp 96) (.tmp 108) (by rfl) (some 109) (by rfl) u.heap.size acc [((yk, 2, ((⟨#[]⟩ : ByteArray), 0), y) : To)] m0 1 (unhide HML) rfl xo (some ⟨X0.heap.size, 0, none⟩) cc 1 (by with_unfolding_all rfl) (by with_unfolding_all rfl) (unhide HO1) (unhide HA1) (unhide HLL ((yk, 2, ((⟨#[]⟩ : ByteArray), 0), y) : To)) (unhide HI1).size ?_
            intro x4 n4 c4 X4 HP4
            have HI4 : Hid (Below u.heap.size u X4) := (unhide HI1).trans (unhide HP4).below
            refine hK _ _ (fun _ => unhide HI4) ?_
            clear hK K
            simp only [Act.put, List.setIfInBounds_toArray, List.set_cons_zero, List.set_cons_succ]
            refine wpAnyL_one (i := 14) (by kernel_rfl) rfl (by rfl) fun K hK => ?_
            refine wp_val (.slice x4 n4 c4) (by go_simp) (some 5) (by rfl) ?_
            refine hK _ _ (fun _ => unhide HI4) ?_
            clear hK K
            simp only [Act.put, List.setIfInBounds_toArray, List.set_cons_zero, List.set_cons_succ]
            refine wpAnyL_done (by kernel_rfl) ?_ _
            go_wp2
            go_roundw
            case rel => exact ⟨i, k + 1, n4, c4, x4, acc ++ [((yk, 2, ((⟨#[]⟩ : ByteArray), 0), y) : To)], hin, by omega, rfl, by go_num, rfl, (unhide HP4).len, unhide HN, (unhide HP4).own, unhide HI4⟩
            case measure => simp [intOf]; omega
          · rw [Bool.not_eq_true] at h2
            have HN := hide (MI.both (unhide HAC) hil hkl (lt_total h1 h2))
            clear HAC
            unfold lt at h1 h2
            generalize a[i] = x at *
            obtain ⟨xk, xn⟩ := x
            have HCA : Hid (∀ G : World, Below u.heap.size u G → G.cell? ⟨g, o + i * 2, none⟩ = some (.string xk) ∧ G.cell? ⟨g, o + i * 2 + 1, none⟩ = some (.int .i64 xn)) := HCA
            generalize o + i * 2 = oo at *
            generalize b[k] = y at *
            generalize dg y = yk at *
            generalize o2 + k * 1 = op at *
            have h1 : Op.bytesLess xk.toList yk.toList = false := h1
            have h2 : Op.bytesLess yk.toList xk.toList = false := h2
            have HN : Hid ((acc ++ [((xk, 3, (xk, xn), y) : To)]) ++ (mgI (a.drop (i + 1)) (b.drop (k + 1))).map toL = dl) := HN
            go_wp2_with fail
            refine wp_region_last (fun G => Below u.heap.size u G) 23 hmix (belowDrew (unhide HIwr)) fun hS => ?_
            have HOY1 : Hid (RT.Own wr.drew u.heap.size acc xo cc) := (unhide HOwr).below (belowDrew (Below.refl _ _))
            generalize wr.drew = Y1 at hS HOY1 ⊢
            refine wpAnyL_take 0 40 (.int .i64 (k : Int)) [3, 4, 22] rfl rfl (by kernel_rfl) (by kernel_rfl) (by kernel_rfl) (by kernel_rfl) (by kernel_rfl) (fun _ _ _ h => h) (by rfl) (fun _ _ => by go_simp) hS ?_
            simp only [Act.put, List.setIfInBounds_toArray, List.set_cons_zero, List.set_cons_succ]
            refine wpAnyL_take 1 41 (.slice (some ⟨g2, o2, none⟩) m d) [2, 3, 4, 22] rfl rfl (by kernel_rfl) (by kernel_rfl) (by kernel_rfl) (by kernel_rfl) (by kernel_rfl) (fun _ _ _ h => h) (by rfl) (fun _ _ => by go_simp) hS ?_
            simp only [Act.put, List.setIfInBounds_toArray, List.set_cons_zero, List.set_cons_succ]
            refine wpAnyL_take 2 42 (.int .i64 (m : Int)) [3, 4, 22] rfl rfl (by kernel_rfl) (by kernel_rfl) (by kernel_rfl) (by kernel_rfl) (by kernel_rfl) (fun _ _ _ h => h) (by rfl) (fun _ _ => by go_simp) hS ?_
            simp only [Act.put, List.setIfInBounds_toArray, List.set_cons_zero, List.set_cons_succ]
            refine wpAnyL_take 3 43 (.bool false) [4, 22] rfl rfl (by kernel_rfl) (by kernel_rfl) (by kernel_rfl) (by kernel_rfl) (by kernel_rfl) (fun _ _ _ h => h) (by rfl) (fun _ _ => by go_simp) hS ?_
            simp only [Act.put, List.setIfInBounds_toArray, List.set_cons_zero, List.set_cons_succ]
            refine wpAnyL_take 4 44 (.bool false) [22] rfl rfl (by kernel_rfl) (by kernel_rfl) (by kernel_rfl) (by kernel_rfl) (by kernel_rfl) (fun _ _ _ h => h) (by rfl) (fun _ _ => by go_simp) hS ?_
            simp only [Act.put, List.setIfInBounds_toArray, List.set_cons_zero, List.set_cons_succ]
            refine wpAnyL_take 5 45 (.int .i64 (i : Int)) [8, 9, 19] rfl rfl (by kernel_rfl) (by kernel_rfl) (by kernel_rfl) (by kernel_rfl) (by kernel_rfl) (fun _ _ _ h => h) (by rfl) (fun _ _ => by go_simp) hS ?_
            simp only [Act.put, List.setIfInBounds_toArray, List.set_cons_zero, List.set_cons_succ]
            refine wpAnyL_take 6 46 (.slice (some ⟨g, o, none⟩) n c) [7, 8, 9, 19] rfl rfl (by kernel_rfl) (by kernel_rfl) (by kernel_rfl) (by kernel_rfl) (by kernel_rfl) (fun _ _ _ h => h) (by rfl) (fun _ _ => by go_simp) hS ?_
            simp only [Act.put, List.setIfInBounds_toArray, List.set_cons_zero, List.set_cons_succ]
            refine wpAnyL_take 7 47 (.int .i64 (n : Int)) [8, 9, 19] rfl rfl (by kernel_rfl) (by kernel_rfl) (by kernel_rfl) (by kernel_rfl) (by kernel_rfl) (fun _ _ _ h => h) (by rfl) (fun _ _ => by go_simp) hS ?_
            simp only [Act.put, List.setIfInBounds_toArray, List.set_cons_zero, List.set_cons_succ]
            refine wpAnyL_take 8 48 (.bool true) [9, 19] rfl rfl (by kernel_rfl) (by kernel_rfl) (by kernel_rfl) (by kernel_rfl) (by kernel_rfl) (fun _ _ _ h => h) (by rfl) (fun _ _ => by go_simp) hS ?_
            simp only [Act.put, List.setIfInBounds_toArray, List.set_cons_zero, List.set_cons_succ]
            refine wpAnyL_take 9 49 (.bool true) [19] rfl rfl (by kernel_rfl) (by kernel_rfl) (by kernel_rfl) (by kernel_rfl) (by kernel_rfl) (fun _ _ _ h => h) (by rfl) (fun _ _ => by go_simp) hS ?_
            simp only [Act.put, List.setIfInBounds_toArray, List.set_cons_zero, List.set_cons_succ]
            refine wpAnyL_take 10 50 (.slice (some ⟨g, o, none⟩) n c) [12, 13, 14, 20, 21, 22] rfl rfl (by kernel_rfl) (by kernel_rfl) (by kernel_rfl) (by kernel_rfl) (by kernel_rfl) (fun _ _ _ h => h) (by rfl) (fun _ _ => by go_simp) hS ?_
            simp only [Act.put, List.setIfInBounds_toArray, List.set_cons_zero, List.set_cons_succ]
            refine wpAnyL_take 11 51 (.int .i64 (i : Int)) [12, 13, 14, 20, 21, 22] rfl rfl (by kernel_rfl) (by kernel_rfl) (by kernel_rfl) (by kernel_rfl) (by kernel_rfl) (fun _ _ _ h => h) (by rfl) (fun _ _ => by go_simp) hS ?_
            simp only [Act.put, List.setIfInBounds_toArray, List.set_cons_zero, List.set_cons_succ]
            refine wpAnyL_take 12 52 (.pointer (some ⟨g, oo, none⟩)) [13, 14, 20, 21, 22] rfl rfl (by kernel_rfl) (by kernel_rfl) (by kernel_rfl) (by kernel_rfl) (by kernel_rfl) (fun _ _ _ h => h) (by rfl) (fun _ _ => by go_simp) hS ?_
            simp only [Act.put, List.setIfInBounds_toArray, List.set_cons_zero, List.set_cons_succ]
            refine wpAnyL_take 13 53 (.pointer (some ⟨g, oo, none⟩)) [14, 20, 21, 22] rfl rfl (by kernel_rfl) (by kernel_rfl) (by kernel_rfl) (by kernel_rfl) (by kernel_rfl) (fun _ _ _ h => h) (by rfl) (fun _ _ => by go_simp) hS ?_
            simp only [Act.put, List.setIfInBounds_toArray, List.set_cons_zero, List.set_cons_succ]
            refine wpAnyL_take 14 54 (.string xk) [20, 21, 22] rfl rfl (by kernel_rfl) (by kernel_rfl) (by kernel_rfl) (by kernel_rfl) (by kernel_rfl) (fun _ _ _ h => h) (by rfl) (fun G hG => by obtain ⟨e0, e1⟩ := unhide HCA G hG; go_simp) hS ?_
            simp only [Act.put, List.setIfInBounds_toArray, List.set_cons_zero, List.set_cons_succ]
            refine wpAnyL_take 15 55 (.slice (some ⟨g2, o2, none⟩) m d) [17, 18, 19] rfl rfl (by kernel_rfl) (by kernel_rfl) (by kernel_rfl) (by kernel_rfl) (by kernel_rfl) (fun _ _ _ h => h) (by rfl) (fun _ _ => by go_simp) hS ?_
            simp only [Act.put, List.setIfInBounds_toArray, List.set_cons_zero, List.set_cons_succ]
            refine wpAnyL_take 16 56 (.int .i64 (k : Int)) [17, 18, 19] rfl rfl (by kernel_rfl) (by kernel_rfl) (by kernel_rfl) (by kernel_rfl) (by kernel_rfl) (fun _ _ _ h => h) (by rfl) (fun _ _ => by go_simp) hS ?_
            simp only [Act.put, List.setIfInBounds_toArray, List.set_cons_zero, List.set_cons_succ]
            refine wpAnyL_take 17 57 (.pointer (some ⟨g2, op, none⟩)) [18, 19] rfl rfl (by kernel_rfl) (by kernel_rfl) (by kernel_rfl) (by kernel_rfl) (by kernel_rfl) (fun _ _ _ h => h) (by rfl) (fun _ _ => by go_simp) hS ?_
            simp only [Act.put, List.setIfInBounds_toArray, List.set_cons_zero, List.set_cons_succ]
            refine wpAnyL_take 18 58 (.int .u8 (y.toNat : Int)) [19] rfl rfl (by kernel_rfl) (by kernel_rfl) (by kernel_rfl) (by kernel_rfl) (by kernel_rfl) (fun _ _ _ h => h) (by rfl) (fun G hG => by have e0 := unhide HCB G hG; go_simp) hS ?_
            simp only [Act.put, List.setIfInBounds_toArray, List.set_cons_zero, List.set_cons_succ]
            refine wpAnyL_one (i := 19) (by kernel_rfl) rfl (by rfl) fun K hK => ?_
            refine wp_call_fn 43 _ _ (by rfl) #[.int .u8 (y.toNat : Int)] (by with_unfolding_all rfl) entDG (some 59) (by rfl) _ (asV (unhide HDG Y1)) ?_
            rintro _ wq ⟨rfl, hwq⟩
            obtain rfl := hwq.symm
            refine hK _ _ (fun _ => hS) ?_
            clear hK K
            simp only [Act.put, List.setIfInBounds_toArray, List.set_cons_zero, List.set_cons_succ]
            refine wpAnyL_take 20 60 (.bool false) [21, 22] rfl rfl (by kernel_rfl) (by kernel_rfl) (by kernel_rfl) (by kernel_rfl) (by kernel_rfl) (fun _ _ _ h => h) (by rfl) (fun _ _ => by go_simp) hS ?_
            simp only [Act.put, List.setIfInBounds_toArray, List.set_cons_zero, List.set_cons_succ]
            refine wpAnyL_take 21 61 (.bool false) [22] rfl rfl (by kernel_rfl) (by kernel_rfl) (by kernel_rfl) (by kernel_rfl) (by kernel_rfl) (fun _ _ _ h => h) (by rfl) (fun _ _ => by go_simp) hS ?_
            simp only [Act.put, List.setIfInBounds_toArray, List.set_cons_zero, List.set_cons_succ]
            refine wpAnyL_take 22 62 (.bool false) [] rfl rfl (by kernel_rfl) (by kernel_rfl) (by kernel_rfl) (by kernel_rfl) (by kernel_rfl) (fun _ _ _ h => h) (by rfl) (fun _ _ => by go_simp) hS ?_
            simp only [Act.put, List.setIfInBounds_toArray, List.set_cons_zero, List.set_cons_succ]
            refine wpAnyL_one (i := 23) (by kernel_rfl) rfl (by rfl) fun K hK => ?_
            refine wp_val (.bool false) (by go_simp) (some 39) (by rfl) ?_
            refine hK _ _ (fun _ => hS) ?_
            clear hK K
            simp only [Act.put, List.setIfInBounds_toArray, List.set_cons_zero, List.set_cons_succ]
            refine wpAnyL_done (by kernel_rfl) ?_ _
            have HIY1 := hide hS
            clear hS
            go_wp2_with fail
            refine wp_region_last (fun G => Below u.heap.size u G) 17 hmix (belowDrew (unhide HIY1)) fun hS => ?_
            have HOY2 : Hid (RT.Own Y1.drew u.heap.size acc xo cc) := (unhide HOY1).below (belowDrew (Below.refl _ _))
            generalize Y1.drew = Y2 at hS HOY2 ⊢
            refine wpAnyL_take 0 79 (.int .i64 (i : Int)) [3, 4, 9] rfl rfl (by kernel_rfl) (by kernel_rfl) (by kernel_rfl) (by kernel_rfl) (by kernel_rfl) (fun _ _ _ h => h) (by rfl) (fun _ _ => by go_simp) hS ?_
            simp only [Act.put, List.setIfInBounds_toArray, List.set_cons_zero, List.set_cons_succ]
            refine wpAnyL_take 1 80 (.slice (some ⟨g, o, none⟩) n c) [2, 3, 4, 9] rfl rfl (by kernel_rfl) (by kernel_rfl) (by kernel_rfl) (by kernel_rfl) (by kernel_rfl) (fun _ _ _ h => h) (by rfl) (fun _ _ => by go_simp) hS ?_
            simp only [Act.put, List.setIfInBounds_toArray, List.set_cons_zero, List.set_cons_succ]
            refine wpAnyL_take 2 81 (.int .i64 (n : Int)) [3, 4, 9] rfl rfl (by kernel_rfl) (by kernel_rfl) (by kernel_rfl) (by kernel_rfl) (by kernel_rfl) (fun _ _ _ h => h) (by rfl) (fun _ _ => by go_simp) hS ?_
            simp only [Act.put, List.setIfInBounds_toArray, List.set_cons_zero, List.set_cons_succ]
            refine wpAnyL_take 3 82 (.bool false) [4, 9] rfl rfl (by kernel_rfl) (by kernel_rfl) (by kernel_rfl) (by kernel_rfl) (by kernel_rfl) (fun _ _ _ h => h) (by rfl) (fun _ _ => by go_simp) hS ?_
            simp only [Act.put, List.setIfInBounds_toArray, List.set_cons_zero, List.set_cons_succ]
            refine wpAnyL_take 4 83 (.bool false) [9] rfl rfl (by kernel_rfl) (by kernel_rfl) (by kernel_rfl) (by kernel_rfl) (by kernel_rfl) (fun _ _ _ h => h) (by rfl) (fun _ _ => by go_simp) hS ?_
            simp only [Act.put, List.setIfInBounds_toArray, List.set_cons_zero, List.set_cons_succ]
            refine wpAnyL_take 5 84 (.slice (some ⟨g2, o2, none⟩) m d) [7, 8, 9] rfl rfl (by kernel_rfl) (by kernel_rfl) (by kernel_rfl) (by kernel_rfl) (by kernel_rfl) (fun _ _ _ h => h) (by rfl) (fun _ _ => by go_simp) hS ?_
            simp only [Act.put, List.setIfInBounds_toArray, List.set_cons_zero, List.set_cons_succ]
            refine wpAnyL_take 6 85 (.int .i64 (k : Int)) [7, 8, 9] rfl rfl (by kernel_rfl) (by kernel_rfl) (by kernel_rfl) (by kernel_rfl) (by kernel_rfl) (fun _ _ _ h => h) (by rfl) (fun _ _ => by go_simp) hS ?_
            simp only [Act.put, List.setIfInBounds_toArray, List.set_cons_zero, List.set_cons_succ]
            refine wpAnyL_take 7 86 (.pointer (some ⟨g2, op, none⟩)) [8, 9] rfl rfl (by kernel_rfl) (by kernel_rfl) (by kernel_rfl) (by kernel_rfl) (by kernel_rfl) (fun _ _ _ h => h) (by rfl) (fun _ _ => by go_simp) hS ?_
            simp only [Act.put, List.setIfInBounds_toArray, List.set_cons_zero, List.set_cons_succ]
            refine wpAnyL_take 8 87 (.int .u8 (y.toNat : Int)) [9] rfl rfl (by kernel_rfl) (by kernel_rfl) (by kernel_rfl) (by kernel_rfl) (by kernel_rfl) (fun _ _ _ h => h) (by rfl) (fun G hG => by have e0 := unhide HCB G hG; go_simp) hS ?_
            simp only [Act.put, List.setIfInBounds_toArray, List.set_cons_zero, List.set_cons_succ]
            refine wpAnyL_take 10 89 (.slice (some ⟨g, o, none⟩) n c) [12, 13, 14, 15, 16] rfl rfl (by kernel_rfl) (by kernel_rfl) (by kernel_rfl) (by kernel_rfl) (by kernel_rfl) (fun _ _ _ h => h) (by rfl) (fun _ _ => by go_simp) hS ?_
            simp only [Act.put, List.setIfInBounds_toArray, List.set_cons_zero, List.set_cons_succ]
            refine wpAnyL_take 11 90 (.int .i64 (i : Int)) [12, 13, 14, 15, 16] rfl rfl (by kernel_rfl) (by kernel_rfl) (by kernel_rfl) (by kernel_rfl) (by kernel_rfl) (fun _ _ _ h => h) (by rfl) (fun _ _ => by go_simp) hS ?_
            simp only [Act.put, List.setIfInBounds_toArray, List.set_cons_zero, List.set_cons_succ]
            refine wpAnyL_take 12 91 (.pointer (some ⟨g, oo, none⟩)) [13, 14, 15, 16] rfl rfl (by kernel_rfl) (by kernel_rfl) (by kernel_rfl) (by kernel_rfl) (by kernel_rfl) (fun _ _ _ h => h) (by rfl) (fun _ _ => by go_simp) hS ?_
            simp only [Act.put, List.setIfInBounds_toArray, List.set_cons_zero, List.set_cons_succ]
            refine wpAnyL_take 13 92 (.pointer (some ⟨g, oo, none⟩)) [14, 15, 16] rfl rfl (by kernel_rfl) (by kernel_rfl) (by kernel_rfl) (by kernel_rfl) (by kernel_rfl) (fun _ _ _ h => h) (by rfl) (fun _ _ => by go_simp) hS ?_
            simp only [Act.put, List.setIfInBounds_toArray, List.set_cons_zero, List.set_cons_succ]
            refine wpAnyL_take 14 93 (.string xk) [15, 16] rfl rfl (by kernel_rfl) (by kernel_rfl) (by kernel_rfl) (by kernel_rfl) (by kernel_rfl) (fun _ _ _ h => h) (by rfl) (fun G hG => by obtain ⟨e0, e1⟩ := unhide HCA G hG; go_simp) hS ?_
            simp only [Act.put, List.setIfInBounds_toArray, List.set_cons_zero, List.set_cons_succ]
            refine wpAnyL_one (i := 9) (by kernel_rfl) rfl (by rfl) fun K hK => ?_
            refine wp_call_fn 43 _ _ (by rfl) #[.int .u8 (y.toNat : Int)] (by with_unfolding_all rfl) entDG (some 88) (by rfl) _ (asV (unhide HDG Y2)) ?_
            rintro _ wq ⟨rfl, hwq⟩
            obtain rfl := hwq.symm
            refine hK _ _ (fun _ => hS) ?_
            clear hK K
            simp only [Act.put, List.setIfInBounds_toArray, List.set_cons_zero, List.set_cons_succ]
            refine wpAnyL_take 15 94 (.bool false) [16] rfl rfl (by kernel_rfl) (by kernel_rfl) (by kernel_rfl) (by kernel_rfl) (by kernel_rfl) (fun _ _ _ h => h) (by rfl) (fun _ _ => by go_simp) hS ?_
            simp only [Act.put, List.setIfInBounds_toArray, List.set_cons_zero, List.set_cons_succ]
            refine wpAnyL_take 16 95 (.bool false) [] rfl rfl (by kernel_rfl) (by kernel_rfl) (by kernel_rfl) (by kernel_rfl) (by kernel_rfl) (fun _ _ _ h => h) (by rfl) (fun _ _ => by go_simp) hS ?_
            simp only [Act.put, List.setIfInBounds_toArray, List.set_cons_zero, List.set_cons_succ]
            refine wpAnyL_one (i := 17) (by kernel_rfl) rfl (by rfl) fun K hK => ?_
            refine wp_val (.bool false) (by go_simp) (some 78) (by rfl) ?_
            refine hK _ _ (fun _ => hS) ?_
            clear hK K
            simp only [Act.put, List.setIfInBounds_toArray, List.set_cons_zero, List.set_cons_succ]
            refine wpAnyL_done (by kernel_rfl) ?_ _
            have HIY2 := hide hS
            clear hS
            go_wp2_with fail
            refine wp_region_last (fun G => Below u.heap.size u G) 17 hmix (belowDrew (unhide HIY2)) fun hS => ?_
            have HO0 : Hid (RT.Own Y2.drew u.heap.size acc xo cc) := (unhide HOY2).below (belowDrew (Below.refl _ _))
            generalize Y2.drew = X0 at hS HO0 ⊢
            refine wpAnyL_take 0 18 (.slice xo m0 cc) [] rfl rfl (by kernel_rfl) (by kernel_rfl) (by kernel_rfl) (by kernel_rfl) (by kernel_rfl) (fun _ _ _ h => h) (by rfl) (fun _ _ => by go_simp) hS ?_
            simp only [Act.put, List.setIfInBounds_toArray, List.set_cons_zero, List.set_cons_succ]
            refine wpAnyL_take 1 19 (.slice (some ⟨g, o, none⟩) n c) [] rfl rfl (by kernel_rfl) (by kernel_rfl) (by kernel_rfl) (by kernel_rfl) (by kernel_rfl) (fun _ _ _ h => h) (by rfl) (fun _ _ => by go_simp) hS ?_
            simp only [Act.put, List.setIfInBounds_toArray, List.set_cons_zero, List.set_cons_succ]
            refine wpAnyL_take 2 20 (.int .i64 (i : Int)) [] rfl rfl (by kernel_rfl) (by kernel_rfl) (by kernel_rfl) (by kernel_rfl) (by kernel_rfl) (fun _ _ _ h => h) (by rfl) (fun _ _ => by go_simp) hS ?_
            simp only [Act.put, List.setIfInBounds_toArray, List.set_cons_zero, List.set_cons_succ]
            refine wpAnyL_take 3 21 (.pointer (some ⟨g, oo, none⟩)) [] rfl rfl (by kernel_rfl) (by kernel_rfl) (by kernel_rfl) (by kernel_rfl) (by kernel_rfl) (fun _ _ _ h => h) (by rfl) (fun _ _ => by go_simp) hS ?_
            simp only [Act.put, List.setIfInBounds_toArray, List.set_cons_zero, List.set_cons_succ]
            refine wpAnyL_take 4 22 (.pointer (some ⟨g, oo, none⟩)) [] rfl rfl (by kernel_rfl) (by kernel_rfl) (by kernel_rfl) (by kernel_rfl) (by kernel_rfl) (fun _ _ _ h => h) (by rfl) (fun _ _ => by go_simp) hS ?_
            simp only [Act.put, List.setIfInBounds_toArray, List.set_cons_zero, List.set_cons_succ]
            refine wpAnyL_take 5 23 (.string xk) [] rfl rfl (by kernel_rfl) (by kernel_rfl) (by kernel_rfl) (by kernel_rfl) (by kernel_rfl) (fun _ _ _ h => h) (by rfl) (fun G hG => by obtain ⟨e0, e1⟩ := unhide HCA G hG; go_simp) hS ?_
            simp only [Act.put, List.setIfInBounds_toArray, List.set_cons_zero, List.set_cons_succ]
            refine wpAnyL_take 6 24 (.slice (some ⟨g, o, none⟩) n c) [] rfl rfl (by kernel_rfl) (by kernel_rfl) (by kernel_rfl) (by kernel_rfl) (by kernel_rfl) (fun _ _ _ h => h) (by rfl) (fun _ _ => by go_simp) hS ?_
            simp only [Act.put, List.setIfInBounds_toArray, List.set_cons_zero, List.set_cons_succ]
            refine wpAnyL_take 7 25 (.int .i64 (i : Int)) [] rfl rfl (by kernel_rfl) (by kernel_rfl) (by kernel_rfl) (by kernel_rfl) (by kernel_rfl) (fun _ _ _ h => h) (by rfl) (fun _ _ => by go_simp) hS ?_
            simp only [Act.put, List.setIfInBounds_toArray, List.set_cons_zero, List.set_cons_succ]
            refine wpAnyL_take 8 26 (.pointer (some ⟨g, oo, none⟩)) [] rfl rfl (by kernel_rfl) (by kernel_rfl) (by kernel_rfl) (by kernel_rfl) (by kernel_rfl) (fun _ _ _ h => h) (by rfl) (fun _ _ => by go_simp) hS ?_
            simp only [Act.put, List.setIfInBounds_toArray, List.set_cons_zero, List.set_cons_succ]
            refine wpAnyL_take 9 27 (.agg #[.string xk, .int .i64 xn]) [] rfl rfl (by kernel_rfl) (by kernel_rfl) (by kernel_rfl) (by kernel_rfl) (by kernel_rfl) (fun _ _ _ h => h) (by rfl) (fun G hG => by obtain ⟨e0, e1⟩ := unhide HCA G hG; go_simp) hS ?_
            simp only [Act.put, List.setIfInBounds_toArray, List.set_cons_zero, List.set_cons_succ]
            refine wpAnyL_take 10 28 (.slice (some ⟨g2, o2, none⟩) m d) [] rfl rfl (by kernel_rfl) (by kernel_rfl) (by kernel_rfl) (by kernel_rfl) (by kernel_rfl) (fun _ _ _ h => h) (by rfl) (fun _ _ => by go_simp) hS ?_
            simp only [Act.put, List.setIfInBounds_toArray, List.set_cons_zero, List.set_cons_succ]
            refine wpAnyL_take 11 29 (.int .i64 (k : Int)) [] rfl rfl (by kernel_rfl) (by kernel_rfl) (by kernel_rfl) (by kernel_rfl) (by kernel_rfl) (fun _ _ _ h => h) (by rfl) (fun _ _ => by go_simp) hS ?_
            simp only [Act.put, List.setIfInBounds_toArray, List.set_cons_zero, List.set_cons_succ]
            refine wpAnyL_take 12 30 (.pointer (some ⟨g2, op, none⟩)) [] rfl rfl (by kernel_rfl) (by kernel_rfl) (by kernel_rfl) (by kernel_rfl) (by kernel_rfl) (fun _ _ _ h => h) (by rfl) (fun _ _ => by go_simp) hS ?_
            simp only [Act.put, List.setIfInBounds_toArray, List.set_cons_zero, List.set_cons_succ]
            refine wpAnyL_take 13 31 (.int .u8 (y.toNat : Int)) [] rfl rfl (by kernel_rfl) (by kernel_rfl) (by kernel_rfl) (by kernel_rfl) (by kernel_rfl) (fun _ _ _ h => h) (by rfl) (fun G hG => by have e0 := unhide HCB G hG; go_simp) hS ?_
            simp only [Act.put, List.setIfInBounds_toArray, List.set_cons_zero, List.set_cons_succ]
            refine wpAnyL_take 14 32 (.agg #[.string xk, .int .i64 3, .string xk, .int .i64 xn, .int .u8 (y.toNat : Int)]) [] rfl rfl (by kernel_rfl) (by kernel_rfl) (by kernel_rfl) (by kernel_rfl) (by kernel_rfl) (fun _ _ _ h => h) (by rfl) (fun _ _ => by go_simp) hS ?_
            simp only [Act.put, List.setIfInBounds_toArray, List.set_cons_zero, List.set_cons_succ]
            refine wpAnyL_one (i := 15) (by kernel_rfl) rfl (by rfl) fun K hK => ?_
            refine wp_buildTo (by rfl) (.slice (some ⟨X0.heap.size, 0, none⟩) 1 1) (X0.alloc (.cells #[.string xk, .int .i64 3, .string xk, .int .i64 xn, .int .u8 (y.toNat : Int)] 63)) (by simp only [List.map_toArray, List.map_cons, List.map_nil]; exact bsT X0 xk 3 xk xn (y.toNat : Int)) (some 33) (by rfl) ?_
            have HI1 : Hid (Below u.heap.size u (X0.alloc (.cells #[.string xk, .int .i64 3, .string xk, .int .i64 xn, .int .u8 (y.toNat : Int)] 63))) := hS.alloc hS.size _
            have HO1 : Hid (RT.Own (X0.alloc (.cells #[.string xk, .int .i64 3, .string xk, .int .i64 xn, .int .u8 (y.toNat : Int)] 63)) u.heap.size acc xo cc) := (unhide HO0).below ((Below.refl _ _).alloc (Nat.le_refl _) _)
            have HA1 : Hid (RT.At (X0.alloc (.cells #[.string xk, .int .i64 3, .string xk, .int .i64 xn, .int .u8 (y.toNat : Int)] 63)) [((xk, 3, (xk, xn), y) : To)] (some ⟨X0.heap.size, 0, none⟩) 1) := RT.one X0 xk 3 xk xn y _
            refine hK _ _ (fun _ => unhide HI1) ?_
            clear hK K
            simp only [Act.put, List.setIfInBounds_toArray, List.set_cons_zero, List.set_cons_succ]
            generalize X0.alloc (.cells #[.string xk, .int .i64 3, .string xk, .int .i64 xn, .int .u8 (y.toNat : Int)] 63) = X1 at HI1 HO1 HA1 ⊢
            refine wpAnyL_one (i := 16) (by kernel_rfl) rfl (by rfl) fun K hK => ?_
            refine wp_putT (.tmp 18) (.tmp 33) (by rfl) (some 34) (by rfl) u.heap.size acc [((xk, 3, (xk, xn), y) : To)] m0 1 (unhide HML) rfl xo (some ⟨X0.heap.size, 0, none⟩) cc 1 (by with_unfolding_all rfl) (by with_unfolding_all rfl) (unhide HO1) (unhide HA1) (unhide HLL ((xk, 3, (xk, xn), y) : To)) (unhide HI1).size ?_
            intro x4 n4 c4 X4 HP4
            have HI4 : Hid (Below u.heap.size u X4) := (unhide HI1).trans (unhide HP4).below
            refine hK _ _ (fun _ => unhide HI4) ?_
            clear hK K
            simp only [Act.put, List.setIfInBounds_toArray, List.set_cons_zero, List.set_cons_succ]
            refine wpAnyL_one (i := 17) (by kernel_rfl) rfl (by rfl) fun K hK => ?_
            refine wp_val (.slice x4 n4 c4) (by go_simp) (some 5) (by rfl) ?_
            refine hK _ _ (fun _ => unhide HI4) ?_
            clear hK K
            simp only [Act.put, List.setIfInBounds_toArray, List.set_cons_zero, List.set_cons_succ]
            refine wpAnyL_done (by kernel_rfl) ?_ _
            go_wp2
            go_roundw
            case rel => exact ⟨i + 1, k + 1, n4, c4, x4, acc ++ [((xk, 3, (xk, xn), y) : To)], by omega, by omega, by go_num, by go_num, rfl, (unhide HP4).len, unhide HN, (unhide HP4).own, unhide HI4⟩
            case measure => simp [intOf]; omega
      · obtain rfl : k = m := by omega
        have hkk : ¬ (k : Int) < (k : Int) := by omega
        have hkg : (k : Int) = (k : Int) := rfl
        have hkb : ((k : Int) == (k : Int)) = true := by simp
        obtain ⟨g, o, hao, HCA⟩ := unhide HCA i hil
        rw [hao] at *
        replace HCA := hide HCA
        have hix := ixI g o n c i hi
        have HN := hide (MI.left (unhide HAC) hil (.inl (by rw [← unhide HNB]; exact Nat.le_refl _)))
        clear HAC HCB hkg
        generalize a[i] = x at *
        obtain ⟨xk, xn⟩ := x
        have HCA : Hid (∀ G : World, Below u.heap.size u G → G.cell? ⟨g, o + i * 2, none⟩ = some (.string xk) ∧ G.cell? ⟨g, o + i * 2 + 1, none⟩ = some (.int .i64 xn)) := HCA
        generalize o + i * 2 = oo at *
        have HN : Hid ((acc ++ [((xk, 1, (xk, xn), 0) : To)]) ++ (mgI (a.drop (i + 1)) (b.drop k)).map toL = dl) := HN
        go_wp2_with fail
        refine wp_region_last (fun G => Below u.heap.size u G) 23 hmix (belowDrew (unhide HIwr)) fun hS => ?_
        have HOY1 : Hid (RT.Own wr.drew u.heap.size acc xo cc) := (unhide HOwr).below (belowDrew (Below.refl _ _))
        generalize wr.drew = Y1 at hS HOY1 ⊢
        refine wpAnyL_take 0 40 (.int .i64 (k : Int)) [3, 4, 22] rfl rfl (by kernel_rfl) (by kernel_rfl) (by kernel_rfl) (by kernel_rfl) (by kernel_rfl) (fun _ _ _ h => h) (by rfl) (fun _ _ => by go_simp) hS ?_
        simp only [Act.put, List.setIfInBounds_toArray, List.set_cons_zero, List.set_cons_succ]
        refine wpAnyL_take 1 41 (.slice bo k d) [2, 3, 4, 22] rfl rfl (by kernel_rfl) (by kernel_rfl) (by kernel_rfl) (by kernel_rfl) (by kernel_rfl) (fun _ _ _ h => h) (by rfl) (fun _ _ => by go_simp) hS ?_
        simp only [Act.put, List.setIfInBounds_toArray, List.set_cons_zero, List.set_cons_succ]
        refine wpAnyL_take 2 42 (.int .i64 (k : Int)) [3, 4, 22] rfl rfl (by kernel_rfl) (by kernel_rfl) (by kernel_rfl) (by kernel_rfl) (by kernel_rfl) (fun _ _ _ h => h) (by rfl) (fun _ _ => by go_simp) hS ?_
        simp only [Act.put, List.setIfInBounds_toArray, List.set_cons_zero, List.set_cons_succ]
        refine wpAnyL_take 3 43 (.bool true) [4, 22] rfl rfl (by kernel_rfl) (by kernel_rfl) (by kernel_rfl) (by kernel_rfl) (by kernel_rfl) (fun _ _ _ h => h) (by rfl) (fun _ _ => by go_simp) hS ?_
        simp only [Act.put, List.setIfInBounds_toArray, List.set_cons_zero, List.set_cons_succ]
        refine wpAnyL_take 4 44 (.bool true) [22] rfl rfl (by kernel_rfl) (by kernel_rfl) (by kernel_rfl) (by kernel_rfl) (by kernel_rfl) (fun _ _ _ h => h) (by rfl) (fun _ _ => by go_simp) hS ?_
        simp only [Act.put, List.setIfInBounds_toArray, List.set_cons_zero, List.set_cons_succ]
        refine wpAnyL_skip 5 45 [8, 9, 19] rfl rfl (by kernel_rfl) (by kernel_rfl) (by kernel_rfl) (by kernel_rfl) (by kernel_rfl) (fun _ _ _ h => h) (by rfl) hS ?_
        simp only [Act.put, List.setIfInBounds_toArray, List.set_cons_zero, List.set_cons_succ]
        refine wpAnyL_skip 6 46 [7, 8, 9, 19] rfl rfl (by kernel_rfl) (by kernel_rfl) (by kernel_rfl) (by kernel_rfl) (by kernel_rfl) (fun _ _ _ h => h) (by rfl) hS ?_
        simp only [Act.put, List.setIfInBounds_toArray, List.set_cons_zero, List.set_cons_succ]
        refine wpAnyL_skip 7 47 [8, 9, 19] rfl rfl (by kernel_rfl) (by kernel_rfl) (by kernel_rfl) (by kernel_rfl) (by kernel_rfl) (fun _ _ _ h => h) (by rfl) hS ?_
        simp only [Act.put, List.setIfInBounds_toArray, List.set_cons_zero, List.set_cons_succ]
        refine wpAnyL_skip 8 48 [9, 19] rfl rfl (by kernel_rfl) (by kernel_rfl) (by kernel_rfl) (by kernel_rfl) (by kernel_rfl) (fun _ _ _ h => h) (by rfl) hS ?_
        simp only [Act.put, List.setIfInBounds_toArray, List.set_cons_zero, List.set_cons_succ]
        refine wpAnyL_skip 9 49 [19] rfl rfl (by kernel_rfl) (by kernel_rfl) (by kernel_rfl) (by kernel_rfl) (by kernel_rfl) (fun _ _ _ h => h) (by rfl) hS ?_
        simp only [Act.put, List.setIfInBounds_toArray, List.set_cons_zero, List.set_cons_succ]
        refine wpAnyL_skip 10 50 [12, 13, 14, 20, 21, 22] rfl rfl (by kernel_rfl) (by kernel_rfl) (by kernel_rfl) (by kernel_rfl) (by kernel_rfl) (fun _ _ _ h => h) (by rfl) hS ?_
        simp only [Act.put, List.setIfInBounds_toArray, List.set_cons_zero, List.set_cons_succ]
        refine wpAnyL_skip 11 51 [12, 13, 14, 20, 21, 22] rfl rfl (by kernel_rfl) (by kernel_rfl) (by kernel_rfl) (by kernel_rfl) (by kernel_rfl) (fun _ _ _ h => h) (by rfl) hS ?_
        simp only [Act.put, List.setIfInBounds_toArray, List.set_cons_zero, List.set_cons_succ]
        refine wpAnyL_skip 12 52 [13, 14, 20, 21, 22] rfl rfl (by kernel_rfl) (by kernel_rfl) (by kernel_rfl) (by kernel_rfl) (by kernel_rfl) (fun _ _ _ h => h) (by rfl) hS ?_
        simp only [Act.put, List.setIfInBounds_toArray, List.set_cons_zero, List.set_cons_succ]
        refine wpAnyL_skip 13 53 [14, 20, 21, 22] rfl rfl (by kernel_rfl) (by kernel_rfl) (by kernel_rfl) (by kernel_rfl) (by kernel_rfl) (fun _ _ _ h => h) (by rfl) hS ?_
        simp only [Act.put, List.setIfInBounds_toArray, List.set_cons_zero, List.set_cons_succ]
        refine wpAnyL_skip 14 54 [20, 21, 22] rfl rfl (by kernel_rfl) (by kernel_rfl) (by kernel_rfl) (by kernel_rfl) (by kernel_rfl) (fun _ _ _ h => h) (by rfl) hS ?_
        simp only [Act.put, List.setIfInBounds_toArray, List.set_cons_zero, List.set_cons_succ]
        refine wpAnyL_skip 15 55 [17, 18, 19] rfl rfl (by kernel_rfl) (by kernel_rfl) (by kernel_rfl) (by kernel_rfl) (by kernel_rfl) (fun _ _ _ h => h) (by rfl) hS ?_
        simp only [Act.put, List.setIfInBounds_toArray, List.set_cons_zero, List.set_cons_succ]
        refine wpAnyL_skip 16 56 [17, 18, 19] rfl rfl (by kernel_rfl) (by kernel_rfl) (by kernel_rfl) (by kernel_rfl) (by kernel_rfl) (fun _ _ _ h => h) (by rfl) hS ?_
        simp only [Act.put, List.setIfInBounds_toArray, List.set_cons_zero, List.set_cons_succ]
        refine wpAnyL_skip 17 57 [18, 19] rfl rfl (by kernel_rfl) (by kernel_rfl) (by kernel_rfl) (by kernel_rfl) (by kernel_rfl) (fun _ _ _ h => h) (by rfl) hS ?_
        simp only [Act.put, List.setIfInBounds_toArray, List.set_cons_zero, List.set_cons_succ]
        refine wpAnyL_skip 18 58 [19] rfl rfl (by kernel_rfl) (by kernel_rfl) (by kernel_rfl) (by kernel_rfl) (by kernel_rfl) (fun _ _ _ h => h) (by rfl) hS ?_
        simp only [Act.put, List.setIfInBounds_toArray, List.set_cons_zero, List.set_cons_succ]
        refine wpAnyL_skip 19 59 [] rfl rfl (by kernel_rfl) (by kernel_rfl) (by kernel_rfl) (by kernel_rfl) (by kernel_rfl) (fun _ _ _ h => h) (by rfl) hS ?_
        simp only [Act.put, List.setIfInBounds_toArray, List.set_cons_zero, List.set_cons_succ]
        refine wpAnyL_skip 20 60 [21, 22] rfl rfl (by kernel_rfl) (by kernel_rfl) (by kernel_rfl) (by kernel_rfl) (by kernel_rfl) (fun _ _ _ h => h) (by rfl) hS ?_
        simp only [Act.put, List.setIfInBounds_toArray, List.set_cons_zero, List.set_cons_succ]
        refine wpAnyL_skip 21 61 [22] rfl rfl (by kernel_rfl) (by kernel_rfl) (by kernel_rfl) (by kernel_rfl) (by kernel_rfl) (fun _ _ _ h => h) (by rfl) hS ?_
        simp only [Act.put, List.setIfInBounds_toArray, List.set_cons_zero, List.set_cons_succ]
        refine wpAnyL_take 22 62 (.bool true) [] rfl rfl (by kernel_rfl) (by kernel_rfl) (by kernel_rfl) (by kernel_rfl) (by kernel_rfl) (fun _ _ _ h => h) (by rfl) (fun _ _ => by go_simp) hS ?_
        simp only [Act.put, List.setIfInBounds_toArray, List.set_cons_zero, List.set_cons_succ]
        refine wpAnyL_one (i := 23) (by kernel_rfl) rfl (by rfl) fun K hK => ?_
        refine wp_val (.bool true) (by go_simp) (some 39) (by rfl) ?_
        refine hK _ _ (fun _ => hS) ?_
        clear hK K
        simp only [Act.put, List.setIfInBounds_toArray, List.set_cons_zero, List.set_cons_succ]
        refine wpAnyL_done (by kernel_rfl) ?_ _
        have HIY1 := hide hS
        clear hS
        go_wp2_with fail
        refine wp_region_last (fun G => Below u.heap.size u G) 13 hmix (belowDrew (unhide HIY1)) fun hS => ?_
        have HO0 : Hid (RT.Own Y1.drew u.heap.size acc xo cc) := (unhide HOY1).below (belowDrew (Below.refl _ _))
        generalize Y1.drew = X0 at hS HO0 ⊢
        refine wpAnyL_take 0 63 (.slice xo m0 cc) [] rfl rfl (by kernel_rfl) (by kernel_rfl) (by kernel_rfl) (by kernel_rfl) (by kernel_rfl) (fun _ _ _ h => h) (by rfl) (fun _ _ => by go_simp) hS ?_
        simp only [Act.put, List.setIfInBounds_toArray, List.set_cons_zero, List.set_cons_succ]
        refine wpAnyL_take 1 64 (.slice (some ⟨g, o, none⟩) n c) [] rfl rfl (by kernel_rfl) (by kernel_rfl) (by kernel_rfl) (by kernel_rfl) (by kernel_rfl) (fun _ _ _ h => h) (by rfl) (fun _ _ => by go_simp) hS ?_
        simp only [Act.put, List.setIfInBounds_toArray, List.set_cons_zero, List.set_cons_succ]
        refine wpAnyL_take 2 65 (.int .i64 (i : Int)) [] rfl rfl (by kernel_rfl) (by kernel_rfl) (by kernel_rfl) (by kernel_rfl) (by kernel_rfl) (fun _ _ _ h => h) (by rfl) (fun _ _ => by go_simp) hS ?_
        simp only [Act.put, List.setIfInBounds_toArray, List.set_cons_zero, List.set_cons_succ]
        refine wpAnyL_take 3 66 (.pointer (some ⟨g, oo, none⟩)) [] rfl rfl (by kernel_rfl) (by kernel_rfl) (by kernel_rfl) (by kernel_rfl) (by kernel_rfl) (fun _ _ _ h => h) (by rfl) (fun _ _ => by go_simp) hS ?_
        simp only [Act.put, List.setIfInBounds_toArray, List.set_cons_zero, List.set_cons_succ]
        refine wpAnyL_take 4 67 (.pointer (some ⟨g, oo, none⟩)) [] rfl rfl (by kernel_rfl) (by kernel_rfl) (by kernel_rfl) (by kernel_rfl) (by kernel_rfl) (fun _ _ _ h => h) (by rfl) (fun _ _ => by go_simp) hS ?_
        simp only [Act.put, List.setIfInBounds_toArray, List.set_cons_zero, List.set_cons_succ]
        refine wpAnyL_take 5 68 (.string xk) [] rfl rfl (by kernel_rfl) (by kernel_rfl) (by kernel_rfl) (by kernel_rfl) (by kernel_rfl) (fun _ _ _ h => h) (by rfl) (fun G hG => by obtain ⟨e0, e1⟩ := unhide HCA G hG; go_simp) hS ?_
        simp only [Act.put, List.setIfInBounds_toArray, List.set_cons_zero, List.set_cons_succ]
        refine wpAnyL_take 6 69 (.slice (some ⟨g, o, none⟩) n c) [] rfl rfl (by kernel_rfl) (by kernel_rfl) (by kernel_rfl) (by kernel_rfl) (by kernel_rfl) (fun _ _ _ h => h) (by rfl) (fun _ _ => by go_simp) hS ?_
        simp only [Act.put, List.setIfInBounds_toArray, List.set_cons_zero, List.set_cons_succ]
        refine wpAnyL_take 7 70 (.int .i64 (i : Int)) [] rfl rfl (by kernel_rfl) (by kernel_rfl) (by kernel_rfl) (by kernel_rfl) (by kernel_rfl) (fun _ _ _ h => h) (by rfl) (fun _ _ => by go_simp) hS ?_
        simp only [Act.put, List.setIfInBounds_toArray, List.set_cons_zero, List.set_cons_succ]
        refine wpAnyL_take 8 71 (.pointer (some ⟨g, oo, none⟩)) [] rfl rfl (by kernel_rfl) (by kernel_rfl) (by kernel_rfl) (by kernel_rfl) (by kernel_rfl) (fun _ _ _ h => h) (by rfl) (fun _ _ => by go_simp) hS ?_
        simp only [Act.put, List.setIfInBounds_toArray, List.set_cons_zero, List.set_cons_succ]
        refine wpAnyL_take 9 72 (.agg #[.string xk, .int .i64 xn]) [] rfl rfl (by kernel_rfl) (by kernel_rfl) (by kernel_rfl) (by kernel_rfl) (by kernel_rfl) (fun _ _ _ h => h) (by rfl) (fun G hG => by obtain ⟨e0, e1⟩ := unhide HCA G hG; go_simp) hS ?_
        simp only [Act.put, List.setIfInBounds_toArray, List.set_cons_zero, List.set_cons_succ]
        refine wpAnyL_take 10 73 (.agg #[.string xk, .int .i64 1, .string xk, .int .i64 xn, .int .u8 0]) [] rfl rfl (by kernel_rfl) (by kernel_rfl) (by kernel_rfl) (by kernel_rfl) (by kernel_rfl) (fun _ _ _ h => h) (by rfl) (fun _ _ => by go_simp) hS ?_
        simp only [Act.put, List.setIfInBounds_toArray, List.set_cons_zero, List.set_cons_succ]
        refine wpAnyL_one (i := 11) (by kernel_rfl) rfl (by rfl) fun K hK => ?_
        refine wp_buildTo (by rfl) (.slice (some ⟨X0.heap.size, 0, none⟩) 1 1) (X0.alloc (.cells #[.string xk, .int .i64 1, .string xk, .int .i64 xn, .int .u8 0] 63)) (by simp only [List.map_toArray, List.map_cons, List.map_nil]; exact bsT X0 xk 1 xk xn 0) (some 74) (by rfl) ?_
        have HI1 : Hid (Below u.heap.size u (X0.alloc (.cells #[.string xk, .int .i64 1, .string xk, .int .i64 xn, .int .u8 0] 63))) := hS.alloc hS.size _
        have HO1 : Hid (RT.Own (X0.alloc (.cells #[.string xk, .int .i64 1, .string xk, .int .i64 xn, .int .u8 0] 63)) u.heap.size acc xo cc) := (unhide HO0).below ((Below.refl _ _).alloc (Nat.le_refl _) _)
        have HA1 : Hid (RT.At (X0.alloc (.cells #[.string xk, .int .i64 1, .string xk, .int .i64 xn, .int .u8 0] 63)) [((xk, 1, (xk, xn), 0) : To)] (some ⟨X0.heap.size, 0, none⟩) 1) := RT.one X0 xk 1 xk xn 0 _
        refine hK _ _ (fun _ => unhide HI1) ?_
        clear hK K
        simp only [Act.put, List.setIfInBounds_toArray, List.set_cons_zero, List.set_cons_succ]
        generalize X0.alloc (.cells #[.string xk, .int .i64 1, .string xk, .int .i64 xn, .int .u8 0] 63) = X1 at HI1 HO1 HA1 ⊢
        refine wpAnyL_one (i := 12) (by kernel_rfl) rfl (by rfl) fun K hK => ?_
        refine wp_putT (.tmp 63) (.tmp 74) (by rfl) (some 75) (by rfl) u.heap.size acc [((xk, 1, (xk, xn), 0) : To)] m0 1 (unhide HML) rfl xo (some ⟨X0.heap.size, 0, none⟩) cc 1 (by with_unfolding_all rfl) (by with_unfolding_all rfl) (unhide HO1) (unhide HA1) (unhide HLL ((xk, 1, (xk, xn), 0) : To)) (unhide HI1).size ?_
        intro x4 n4 c4 X4 HP4
        have HI4 : Hid (Below u.heap.size u X4) := (unhide HI1).trans (unhide HP4).below
        refine hK _ _ (fun _ => unhide HI4) ?_
        clear hK K
        simp only [Act.put, List.setIfInBounds_toArray, List.set_cons_zero, List.set_cons_succ]
        refine wpAnyL_one (i := 13) (by kernel_rfl) rfl (by rfl) fun K hK => ?_
        refine wp_val (.slice x4 n4 c4) (by go_simp) (some 5) (by rfl) ?_
        refine hK _ _ (fun _ => unhide HI4) ?_
        clear hK K
        simp only [Act.put, List.setIfInBounds_toArray, List.set_cons_zero, List.set_cons_succ]
        refine wpAnyL_done (by kernel_rfl) ?_ _
        go_wp2
        go_roundw
        case rel => exact ⟨i + 1, k, n4, c4, x4, acc ++ [((xk, 1, (xk, xn), 0) : To)], by omega, hkm, by go_num, rfl, rfl, (unhide HP4).len, unhide HN, (unhide HP4).own, unhide HI4⟩
        case measure => simp [intOf]; omega
    · obtain rfl : i = n := by omega
      have hii : ¬ (i : Int) < (i : Int) := by omega
      by_cases hk : k < m
      · have hkk : (k : Int) < (m : Int) := by omega
        have hkl : k < b.length := by rw [← unhide HNB]; exact hk
        have hkb : ((k : Int) == (m : Int)) = false := beq_false_of_ne (by omega)
        obtain ⟨g2, o2, hbo, HCB⟩ := unhide HCB k hkl
        rw [hbo] at *
        replace HCB := hide HCB
        have hix2 := ixU g2 o2 m d k hk
        have HDG := hide (fun W => lDigit b[k] W)
        have hib : ((i : Int) == (i : Int)) = true := by simp
        have HN := hide (MI.right (unhide HAC) hkl (.inl (by rw [← unhide HNA]; exact Nat.le_refl _)))
        clear HAC HCA
        generalize b[k] = y at *
        generalize dg y = yk at *
        generalize o2 + k * 1 = op at *
        have HN : Hid ((acc ++ [((yk, 2, ((⟨#[]⟩ : ByteArray), 0), y) : To)]) ++ (mgI (a.drop i) (b.drop (k + 1))).map toL = dl) := HN
        go_wp2_with fail
        refine wp_region_last (fun G => Below u.heap.size u G) 23 hmix (belowDrew (unhide HIwr)) fun hS => ?_
        have HOY1 : Hid (RT.Own wr.drew u.heap.size acc xo cc) := (unhide HOwr).below (belowDrew (Below.refl _ _))
        generalize wr.drew = Y1 at hS HOY1 ⊢
        refine wpAnyL_take 0 40 (.int .i64 (k : Int)) [3, 4, 22] rfl rfl (by kernel_rfl) (by kernel_rfl) (by kernel_rfl) (by kernel_rfl) (by kernel_rfl) (fun _ _ _ h => h) (by rfl) (fun _ _ => by go_simp) hS ?_
        simp only [Act.put, List.setIfInBounds_toArray, List.set_cons_zero, List.set_cons_succ]
        refine wpAnyL_take 1 41 (.slice (some ⟨g2, o2, none⟩) m d) [2, 3, 4, 22] rfl rfl (by kernel_rfl) (by kernel_rfl) (by kernel_rfl) (by kernel_rfl) (by kernel_rfl) (fun _ _ _ h => h) (by rfl) (fun _ _ => by go_simp) hS ?_
        simp only [Act.put, List.setIfInBounds_toArray, List.set_cons_zero, List.set_cons_succ]
        refine wpAnyL_take 2 42 (.int .i64 (m : Int)) [3, 4, 22] rfl rfl (by kernel_rfl) (by kernel_rfl) (by kernel_rfl) (by kernel_rfl) (by kernel_rfl) (fun _ _ _ h => h) (by rfl) (fun _ _ => by go_simp) hS ?_
        simp only [Act.put, List.setIfInBounds_toArray, List.set_cons_zero, List.set_cons_succ]
        refine wpAnyL_take 3 43 (.bool false) [4, 22] rfl rfl (by kernel_rfl) (by kernel_rfl) (by kernel_rfl) (by kernel_rfl) (by kernel_rfl) (fun _ _ _ h => h) (by rfl) (fun _ _ => by go_simp) hS ?_
        simp only [Act.put, List.setIfInBounds_toArray, List.set_cons_zero, List.set_cons_succ]
        refine wpAnyL_take 4 44 (.bool false) [22] rfl rfl (by kernel_rfl) (by kernel_rfl) (by kernel_rfl) (by kernel_rfl) (by kernel_rfl) (fun _ _ _ h => h) (by rfl) (fun _ _ => by go_simp) hS ?_
        simp only [Act.put, List.setIfInBounds_toArray, List.set_cons_zero, List.set_cons_succ]
        refine wpAnyL_take 5 45 (.int .i64 (i : Int)) [8, 9, 19] rfl rfl (by kernel_rfl) (by kernel_rfl) (by kernel_rfl) (by kernel_rfl) (by kernel_rfl) (fun _ _ _ h => h) (by rfl) (fun _ _ => by go_simp) hS ?_
        simp only [Act.put, List.setIfInBounds_toArray, List.set_cons_zero, List.set_cons_succ]
        refine wpAnyL_take 6 46 (.slice ao i c) [7, 8, 9, 19] rfl rfl (by kernel_rfl) (by kernel_rfl) (by kernel_rfl) (by kernel_rfl) (by kernel_rfl) (fun _ _ _ h => h) (by rfl) (fun _ _ => by go_simp) hS ?_
        simp only [Act.put, List.setIfInBounds_toArray, List.set_cons_zero, List.set_cons_succ]
        refine wpAnyL_take 7 47 (.int .i64 (i : Int)) [8, 9, 19] rfl rfl (by kernel_rfl) (by kernel_rfl) (by kernel_rfl) (by kernel_rfl) (by kernel_rfl) (fun _ _ _ h => h) (by rfl) (fun _ _ => by go_simp) hS ?_
        simp only [Act.put, List.setIfInBounds_toArray, List.set_cons_zero, List.set_cons_succ]
        refine wpAnyL_take 8 48 (.bool false) [9, 19] rfl rfl (by kernel_rfl) (by kernel_rfl) (by kernel_rfl) (by kernel_rfl) (by kernel_rfl) (fun _ _ _ h => h) (by rfl) (fun _ _ => by go_simp) hS ?_
        simp only [Act.put, List.setIfInBounds_toArray, List.set_cons_zero, List.set_cons_succ]
        refine wpAnyL_take 9 49 (.bool false) [19] rfl rfl (by kernel_rfl) (by kernel_rfl) (by kernel_rfl) (by kernel_rfl) (by kernel_rfl) (fun _ _ _ h => h) (by rfl) (fun _ _ => by go_simp) hS ?_
        simp only [Act.put, List.setIfInBounds_toArray, List.set_cons_zero, List.set_cons_succ]
        refine wpAnyL_skip 10 50 [12, 13, 14, 20, 21, 22] rfl rfl (by kernel_rfl) (by kernel_rfl) (by kernel_rfl) (by kernel_rfl) (by kernel_rfl) (fun _ _ _ h => h) (by rfl) hS ?_
        simp only [Act.put, List.setIfInBounds_toArray, List.set_cons_zero, List.set_cons_succ]
        refine wpAnyL_skip 11 51 [12, 13, 14, 20, 21, 22] rfl rfl (by kernel_rfl) (by kernel_rfl) (by kernel_rfl) (by kernel_rfl) (by kernel_rfl) (fun _ _ _ h => h) (by rfl) hS ?_
        simp only [Act.put, List.setIfInBounds_toArray, List.set_cons_zero, List.set_cons_succ]
        refine wpAnyL_skip 12 52 [13, 14, 20, 21, 22] rfl rfl (by kernel_rfl) (by kernel_rfl) (by kernel_rfl) (by kernel_rfl) (by kernel_rfl) (fun _ _ _ h => h) (by rfl) hS ?_
        simp only [Act.put, List.setIfInBounds_toArray, List.set_cons_zero, List.set_cons_succ]
        refine wpAnyL_skip 13 53 [14, 20, 21, 22] rfl rfl (by kernel_rfl) (by kernel_rfl) (by kernel_rfl) (by kernel_rfl) (by kernel_rfl) (fun _ _ _ h => h) (by rfl) hS ?_
        simp only [Act.put, List.setIfInBounds_toArray, List.set_cons_zero, List.set_cons_succ]
        refine wpAnyL_skip 14 54 [20, 21, 22] rfl rfl (by kernel_rfl) (by kernel_rfl) (by kernel_rfl) (by kernel_rfl) (by kernel_rfl) (fun _ _ _ h => h) (by rfl) hS ?_
        simp only [Act.put, List.setIfInBounds_toArray, List.set_cons_zero, List.set_cons_succ]
        refine wpAnyL_skip 15 55 [17, 18, 19] rfl rfl (by kernel_rfl) (by kernel_rfl) (by kernel_rfl) (by kernel_rfl) (by kernel_rfl) (fun _ _ _ h => h) (by rfl) hS ?_
        simp only [Act.put, List.setIfInBounds_toArray, List.set_cons_zero, List.set_cons_succ]
        refine wpAnyL_skip 16 56 [17, 18, 19] rfl rfl (by kernel_rfl) (by kernel_rfl) (by kernel_rfl) (by kernel_rfl) (by kernel_rfl) (fun _ _ _ h => h) (by rfl) hS ?_
        simp only [Act.put, List.setIfInBounds_toArray, List.set_cons_zero, List.set_cons_succ]
        refine wpAnyL_skip 17 57 [18, 19] rfl rfl (by kernel_rfl) (by kernel_rfl) (by kernel_rfl) (by kernel_rfl) (by kernel_rfl) (fun _ _ _ h => h) (by rfl) hS ?_
        simp only [Act.put, List.setIfInBounds_toArray, List.set_cons_zero, List.set_cons_succ]
        refine wpAnyL_skip 18 58 [19] rfl rfl (by kernel_rfl) (by kernel_rfl) (by kernel_rfl) (by kernel_rfl) (by kernel_rfl) (fun _ _ _ h => h) (by rfl) hS ?_
        simp only [Act.put, List.setIfInBounds_toArray, List.set_cons_zero, List.set_cons_succ]
        refine wpAnyL_skip 19 59 [] rfl rfl (by kernel_rfl) (by kernel_rfl) (by kernel_rfl) (by kernel_rfl) (by kernel_rfl) (fun _ _ _ h => h) (by rfl) hS ?_
        simp only [Act.put, List.setIfInBounds_toArray, List.set_cons_zero, List.set_cons_succ]
        refine wpAnyL_skip 20 60 [21, 22] rfl rfl (by kernel_rfl) (by kernel_rfl) (by kernel_rfl) (by kernel_rfl) (by kernel_rfl) (fun _ _ _ h => h) (by rfl) hS ?_
        simp only [Act.put, List.setIfInBounds_toArray, List.set_cons_zero, List.set_cons_succ]
        refine wpAnyL_take 21 61 (.bool false) [22] rfl rfl (by kernel_rfl) (by kernel_rfl) (by kernel_rfl) (by kernel_rfl) (by kernel_rfl) (fun _ _ _ h => h) (by rfl) (fun _ _ => by go_simp) hS ?_
        simp only [Act.put, List.setIfInBounds_toArray, List.set_cons_zero, List.set_cons_succ]
        refine wpAnyL_take 22 62 (.bool false) [] rfl rfl (by kernel_rfl) (by kernel_rfl) (by kernel_rfl) (by kernel_rfl) (by kernel_rfl) (fun _ _ _ h => h) (by rfl) (fun _ _ => by go_simp) hS ?_
        simp only [Act.put, List.setIfInBounds_toArray, List.set_cons_zero, List.set_cons_succ]
        refine wpAnyL_one (i := 23) (by kernel_rfl) rfl (by rfl) fun K hK => ?_
        refine wp_val (.bool false) (by go_simp) (some 39) (by rfl) ?_
        refine hK _ _ (fun _ => hS) ?_
        clear hK K
        simp only [Act.put, List.setIfInBounds_toArray, List.set_cons_zero, List.set_cons_succ]
        refine wpAnyL_done (by kernel_rfl) ?_ _
        have HIY1 := hide hS
        clear hS
        go_wp2_with fail
        refine wp_region_last (fun G => Below u.heap.size u G) 17 hmix (belowDrew (unhide HIY1)) fun hS => ?_
        have HOY2 : Hid (RT.Own Y1.drew u.heap.size acc xo cc) := (unhide HOY1).below (belowDrew (Below.refl _ _))
        generalize Y1.drew = Y2 at hS HOY2 ⊢
        refine wpAnyL_take 0 79 (.int .i64 (i : Int)) [3, 4, 9] rfl rfl (by kernel_rfl) (by kernel_rfl) (by kernel_rfl) (by kernel_rfl) (by kernel_rfl) (fun _ _ _ h => h) (by rfl) (fun _ _ => by go_simp) hS ?_
        simp only [Act.put, List.setIfInBounds_toArray, List.set_cons_zero, List.set_cons_succ]
        refine wpAnyL_take 1 80 (.slice ao i c) [2, 3, 4, 9] rfl rfl (by kernel_rfl) (by kernel_rfl) (by kernel_rfl) (by kernel_rfl) (by kernel_rfl) (fun _ _ _ h => h) (by rfl) (fun _ _ => by go_simp) hS ?_
        simp only [Act.put, List.setIfInBounds_toArray, List.set_cons_zero, List.set_cons_succ]
        refine wpAnyL_take 2 81 (.int .i64 (i : Int)) [3, 4, 9] rfl rfl (by kernel_rfl) (by kernel_rfl) (by kernel_rfl) (by kernel_rfl) (by kernel_rfl) (fun _ _ _ h => h) (by rfl) (fun _ _ => by go_simp) hS ?_
        simp only [Act.put, List.setIfInBounds_toArray, List.set_cons_zero, List.set_cons_succ]
        refine wpAnyL_take 3 82 (.bool true) [4, 9] rfl rfl (by kernel_rfl) (by kernel_rfl) (by kernel_rfl) (by kernel_rfl) (by kernel_rfl) (fun _ _ _ h => h) (by rfl) (fun _ _ => by go_simp) hS ?_
        simp only [Act.put, List.setIfInBounds_toArray, List.set_cons_zero, List.set_cons_succ]
        refine wpAnyL_take 4 83 (.bool true) [9] rfl rfl (by kernel_rfl) (by kernel_rfl) (by kernel_rfl) (by kernel_rfl) (by kernel_rfl) (fun _ _ _ h => h) (by rfl) (fun _ _ => by go_simp) hS ?_
        simp only [Act.put, List.setIfInBounds_toArray, List.set_cons_zero, List.set_cons_succ]
        refine wpAnyL_skip 5 84 [7, 8, 9] rfl rfl (by kernel_rfl) (by kernel_rfl) (by kernel_rfl) (by kernel_rfl) (by kernel_rfl) (fun _ _ _ h => h) (by rfl) hS ?_
        simp only [Act.put, List.setIfInBounds_toArray, List.set_cons_zero, List.set_cons_succ]
        refine wpAnyL_skip 6 85 [7, 8, 9] rfl rfl (by kernel_rfl) (by kernel_rfl) (by kernel_rfl) (by kernel_rfl) (by kernel_rfl) (fun _ _ _ h => h) (by rfl) hS ?_
        simp only [Act.put, List.setIfInBounds_toArray, List.set_cons_zero, List.set_cons_succ]
        refine wpAnyL_skip 7 86 [8, 9] rfl rfl (by kernel_rfl) (by kernel_rfl) (by kernel_rfl) (by kernel_rfl) (by kernel_rfl) (fun _ _ _ h => h) (by rfl) hS ?_
        simp only [Act.put, List.setIfInBounds_toArray, List.set_cons_zero, List.set_cons_succ]
        refine wpAnyL_skip 8 87 [9] rfl rfl (by kernel_rfl) (by kernel_rfl) (by kernel_rfl) (by kernel_rfl) (by kernel_rfl) (fun _ _ _ h => h) (by rfl) hS ?_
        simp only [Act.put, List.setIfInBounds_toArray, List.set_cons_zero, List.set_cons_succ]
        refine wpAnyL_skip 9 88 [] rfl rfl (by kernel_rfl) (by kernel_rfl) (by kernel_rfl) (by kernel_rfl) (by kernel_rfl) (fun _ _ _ h => h) (by rfl) hS ?_
        simp only [Act.put, List.setIfInBounds_toArray, List.set_cons_zero, List.set_cons_succ]
        refine wpAnyL_skip 10 89 [12, 13, 14, 15, 16] rfl rfl (by kernel_rfl) (by kernel_rfl) (by kernel_rfl) (by kernel_rfl) (by kernel_rfl) (fun _ _ _ h => h) (by rfl) hS ?_
        simp only [Act.put, List.setIfInBounds_toArray, List.set_cons_zero, List.set_cons_succ]
        refine wpAnyL_skip 11 90 [12, 13, 14, 15, 16] rfl rfl (by kernel_rfl) (by kernel_rfl) (by kernel_rfl) (by kernel_rfl) (by kernel_rfl) (fun _ _ _ h => h) (by rfl) hS ?_
        simp only [Act.put, List.setIfInBounds_toArray, List.set_cons_zero, List.set_cons_succ]
        refine wpAnyL_skip 12 91 [13, 14, 15, 16] rfl rfl (by kernel_rfl) (by kernel_rfl) (by kernel_rfl) (by kernel_rfl) (by kernel_rfl) (fun _ _ _ h => h) (by rfl) hS ?_
        simp only [Act.put, List.setIfInBounds_toArray, List.set_cons_zero, List.set_cons_succ]
        refine wpAnyL_skip 13 92 [14, 15, 16] rfl rfl (by kernel_rfl) (by kernel_rfl) (by kernel_rfl) (by kernel_rfl) (by kernel_rfl) (fun _ _ _ h => h) (by rfl) hS ?_
        simp only [Act.put, List.setIfInBounds_toArray, List.set_cons_zero, List.set_cons_succ]
        refine wpAnyL_skip 14 93 [15, 16] rfl rfl (by kernel_rfl) (by kernel_rfl) (by kernel_rfl) (by kernel_rfl) (by kernel_rfl) (fun _ _ _ h => h) (by rfl) hS ?_
        simp only [Act.put, List.setIfInBounds_toArray, List.set_cons_zero, List.set_cons_succ]
        refine wpAnyL_skip 15 94 [16] rfl rfl (by kernel_rfl) (by kernel_rfl) (by kernel_rfl) (by kernel_rfl) (by kernel_rfl) (fun _ _ _ h => h) (by rfl) hS ?_
        simp only [Act.put, List.setIfInBounds_toArray, List.set_cons_zero, List.set_cons_succ]
        refine wpAnyL_take 16 95 (.bool true) [] rfl rfl (by kernel_rfl) (by kernel_rfl) (by kernel_rfl) (by kernel_rfl) (by kernel_rfl) (fun _ _ _ h => h) (by rfl) (fun _ _ => by go_simp) hS ?_
        simp only [Act.put, List.setIfInBounds_toArray, List.set_cons_zero, List.set_cons_succ]
        refine wpAnyL_one (i := 17) (by kernel_rfl) rfl (by rfl) fun K hK => ?_
        refine wp_val (.bool true) (by go_simp) (some 78) (by rfl) ?_
        refine hK _ _ (fun _ => hS) ?_
        clear hK K
        simp only [Act.put, List.setIfInBounds_toArray, List.set_cons_zero, List.set_cons_succ]
        refine wpAnyL_done (by kernel_rfl) ?_ _
        have HIY2 := hide hS
        clear hS
        go_wp2_with fail
        refine wp_region_last (fun G => Below u.heap.size u G) 14 hmix (belowDrew (unhide HIY2)) fun hS => ?_
        have HO0 : Hid (RT.Own Y2.drew u.heap.size acc xo cc) := (unhide HOY2).below (belowDrew (Below.refl _ _))
        generalize Y2.drew = X0 at hS HO0 ⊢
        refine wpAnyL_take 0 96 (.slice xo m0 cc) [] rfl rfl (by kernel_rfl) (by kernel_rfl) (by kernel_rfl) (by kernel_rfl) (by kernel_rfl) (fun _ _ _ h => h) (by rfl) (fun _ _ => by go_simp) hS ?_
        simp only [Act.put, List.setIfInBounds_toArray, List.set_cons_zero, List.set_cons_succ]
        refine wpAnyL_take 1 97 (.slice (some ⟨g2, o2, none⟩) m d) [] rfl rfl (by kernel_rfl) (by kernel_rfl) (by kernel_rfl) (by kernel_rfl) (by kernel_rfl) (fun _ _ _ h => h) (by rfl) (fun _ _ => by go_simp) hS ?_
        simp only [Act.put, List.setIfInBounds_toArray, List.set_cons_zero, List.set_cons_succ]
        refine wpAnyL_take 2 98 (.int .i64 (k : Int)) [] rfl rfl (by kernel_rfl) (by kernel_rfl) (by kernel_rfl) (by kernel_rfl) (by kernel_rfl) (fun _ _ _ h => h) (by rfl) (fun _ _ => by go_simp) hS ?_
        simp only [Act.put, List.setIfInBounds_toArray, List.set_cons_zero, List.set_cons_succ]
        refine wpAnyL_take 3 99 (.pointer (some ⟨g2, op, none⟩)) [] rfl rfl (by kernel_rfl) (by kernel_rfl) (by kernel_rfl) (by kernel_rfl) (by kernel_rfl) (fun _ _ _ h => h) (by rfl) (fun _ _ => by go_simp) hS ?_
        simp only [Act.put, List.setIfInBounds_toArray, List.set_cons_zero, List.set_cons_succ]
        refine wpAnyL_take 4 100 (.int .u8 (y.toNat : Int)) [] rfl rfl (by kernel_rfl) (by kernel_rfl) (by kernel_rfl) (by kernel_rfl) (by kernel_rfl) (fun _ _ _ h => h) (by rfl) (fun G hG => by have e0 := unhide HCB G hG; go_simp) hS ?_
        simp only [Act.put, List.setIfInBounds_toArray, List.set_cons_zero, List.set_cons_succ]
        refine wpAnyL_take 6 102 (.agg #[.string ⟨#[]⟩, .int .i64 0]) [] rfl rfl (by kernel_rfl) (by kernel_rfl) (by kernel_rfl) (by kernel_rfl) (by kernel_rfl) (fun _ _ _ h => h) (by rfl) (fun _ _ => by go_simp) hS ?_
        simp only [Act.put, List.setIfInBounds_toArray, List.set_cons_zero, List.set_cons_succ]
        refine wpAnyL_take 7 103 (.slice (some ⟨g2, o2, none⟩) m d) [] rfl rfl (by kernel_rfl) (by kernel_rfl) (by kernel_rfl) (by kernel_rfl) (by kernel_rfl) (fun _ _ _ h => h) (by rfl) (fun _ _ => by go_simp) hS ?_
        simp only [Act.put, List.setIfInBounds_toArray, List.set_cons_zero, List.set_cons_succ]
        refine wpAnyL_take 8 104 (.int .i64 (k : Int)) [] rfl rfl (by kernel_rfl) (by kernel_rfl) (by kernel_rfl) (by kernel_rfl) (by kernel_rfl) (fun _ _ _ h => h) (by rfl) (fun _ _ => by go_simp) hS ?_
        simp only [Act.put, List.setIfInBounds_toArray, List.set_cons_zero, List.set_cons_succ]
        refine wpAnyL_take 9 105 (.pointer (some ⟨g2, op, none⟩)) [] rfl rfl (by kernel_rfl) (by kernel_rfl) (by kernel_rfl) (by kernel_rfl) (by kernel_rfl) (fun _ _ _ h => h) (by rfl) (fun _ _ => by go_simp) hS ?_
        simp only [Act.put, List.setIfInBounds_toArray, List.set_cons_zero, List.set_cons_succ]
        refine wpAnyL_take 10 106 (.int .u8 (y.toNat : Int)) [] rfl rfl (by kernel_rfl) (by kernel_rfl) (by kernel_rfl) (by kernel_rfl) (by kernel_rfl) (fun _ _ _ h => h) (by rfl) (fun G hG => by have e0 := unhide HCB G hG; go_simp) hS ?_
        simp only [Act.put, List.setIfInBounds_toArray, List.set_cons_zero, List.set_cons_succ]
        refine wpAnyL_one (i := 5) (by kernel_rfl) rfl (by rfl) fun K hK => ?_
        refine wp_call_fn 43 _ _ (by rfl) #[.int .u8 (y.toNat : Int)] (by with_unfolding_all rfl) entDG (some 101) (by rfl) _ (asV (unhide HDG X0)) ?_
        rintro _ wq ⟨rfl, hwq⟩
        obtain rfl := hwq.symm
        refine hK _ _ (fun _ => hS) ?_
        clear hK K
        simp only [Act.put, List.setIfInBounds_toArray, List.set_cons_zero, List.set_cons_succ]
        refine wpAnyL_take 11 107 (.agg #[.string yk, .int .i64 2, .string ⟨#[]⟩, .int .i64 0, .int .u8 (y.toNat : Int)]) [] rfl rfl (by kernel_rfl) (by kernel_rfl) (by kernel_rfl) (by kernel_rfl) (by kernel_rfl) (fun _ _ _ h => h) (by rfl) (fun _ _ => by go_simp) hS ?_
        simp only [Act.put, List.setIfInBounds_toArray, List.set_cons_zero, List.set_cons_succ]
        refine wpAnyL_one (i := 12) (by kernel_rfl) rfl (by rfl) fun K hK => ?_
        refine wp_buildTo (by rfl) (.slice (some ⟨X0.heap.size, 0, none⟩) 1 1) (X0.alloc (.cells #[.string yk, .int .i64 2, .string ⟨#[]⟩, .int .i64 0, .int .u8 (y.toNat : Int)] 63)) (by simp only [List.map_toArray, List.map_cons, List.map_nil]; exact bsT X0 yk 2 ⟨#[]⟩ 0 (y.toNat : Int)) (some 108) (by rfl) ?_
        have HI1 : Hid (Below u.heap.size u (X0.alloc (.cells #[.string yk, .int .i64 2, .string ⟨#[]⟩, .int .i64 0, .int .u8 (y.toNat : Int)] 63))) := hS.alloc hS.size _
        have HO1 : Hid (RT.Own (X0.alloc (.cells #[.string yk, .int .i64 2, .string ⟨#[]⟩, .int .i64 0, .int .u8 (y.toNat : Int)] 63)) u.heap.size acc xo cc) := (unhide HO0).below ((Below.refl _ _).alloc (Nat.le_refl _) _)
        have HA1 : Hid (RT.At (X0.alloc (.cells #[.string yk, .int .i64 2, .string ⟨#[]⟩, .int .i64 0, .int .u8 (y.toNat : Int)] 63)) [((yk, 2, ((⟨#[]⟩ : ByteArray), 0), y) : To)] (some ⟨X0.heap.size, 0, none⟩) 1) := RT.one X0 yk 2 ⟨#[]⟩ 0 y _
        refine hK _ _ (fun _ => unhide HI1) ?_
        clear hK K
        simp only [Act.put, List.setIfInBounds_toArray, List.set_cons_zero, List.set_cons_succ]
        generalize X0.alloc (.cells #[.string yk, .int .i64 2, .string ⟨#[]⟩, .int .i64 0, .int .u8 (y.toNat : Int)] 63) = X1 at HI1 HO1 HA1 ⊢
        refine wpAnyL_one (i := 13) (by kernel_rfl) rfl (by rfl) fun K hK => ?_
        refine wp_putT (.tmp 96) (.tmp 108) (by rfl) (some 109) (by rfl) u.heap.size acc [((yk, 2, ((⟨#[]⟩ : ByteArray), 0), y) : To)] m0 1 (unhide HML) rfl xo (some ⟨X0.heap.size, 0, none⟩) cc 1 (by with_unfolding_all rfl) (by with_unfolding_all rfl) (unhide HO1) (unhide HA1) (unhide HLL ((yk, 2, ((⟨#[]⟩ : ByteArray), 0), y) : To)) (unhide HI1).size ?_
        intro x4 n4 c4 X4 HP4
        have HI4 : Hid (Below u.heap.size u X4) := (unhide HI1).trans (unhide HP4).below
        refine hK _ _ (fun _ => unhide HI4) ?_
        clear hK K
        simp only [Act.put, List.setIfInBounds_toArray, List.set_cons_zero, List.set_cons_succ]
        refine wpAnyL_one (i := 14) (by kernel_rfl) rfl (by rfl) fun K hK => ?_
        refine wp_val (.slice x4 n4 c4) (by go_simp) (some 5) (by rfl) ?_
        refine hK _ _ (fun _ => unhide HI4) ?_
        clear hK K
        simp only [Act.put, List.setIfInBounds_toArray, List.set_cons_zero, List.set_cons_succ]
        refine wpAnyL_done (by kernel_rfl) ?_ _
        go_wp2
        go_roundw
        case rel => exact ⟨i, k + 1, n4, c4, x4, acc ++ [((yk, 2, ((⟨#[]⟩ : ByteArray), 0), y) : To)], hin, by omega, rfl, by go_num, rfl, (unhide HP4).len, unhide HN, (unhide HP4).own, unhide HI4⟩
        case measure => simp [intOf]; omega
      · obtain rfl : k = m := by omega
        have hkk : ¬ (k : Int) < (k : Int) := by omega
        go_wp2
        go_ret
        have HE := hide (MI.done (unhide HAC) (by rw [← unhide HNA]; exact Nat.le_refl _) (by rw [← unhide HNB]; exact Nat.le_refl _))
        exact ⟨xo, m0, cc, rfl, by rw [← unhide HE]; exact unhide HML, by rw [← unhide HE]; exact unhide HOwr, unhide HIwr⟩
end Go.Proofs.Ytbahlfpcbplofaa.S
