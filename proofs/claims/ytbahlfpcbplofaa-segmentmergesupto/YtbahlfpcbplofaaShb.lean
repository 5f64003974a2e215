/- Segments: the document's Put. Written by mkshb.py. -/
import Derived.Test.YtbahlfpcbplofaaSgz
namespace Go.Proofs.Ytbahlfpcbplofaa.S
open Go.RowKit Go.Lib
theorem puts_pre (e : En) (s : List En) : ∀ p : List En, (∀ y ∈ p, lt y.1 e.1 = true) → puts (mgE (p ++ s) [e]) = p ++ puts (mgE s [e])
  | [], _ => rfl
  | y :: p, h => by
    have ih := puts_pre e s p fun z hz => h z (List.mem_cons_of_mem _ hz)
    unfold mgE at *
    rw [List.cons_append, mrg_lt (h y List.mem_cons_self), List.cons_append, ← ih]; rfl
theorem puts_gt {e x : En} {s : List En} (h : lt e.1 x.1 = true) : puts (mgE (x :: s) [e]) = e :: x :: s := by
  unfold mgE
  rw [mrg_gt (f := Prod.fst) (g := Prod.fst) h, mrg_r]
  have h1 := put_all (x :: s)
  unfold puts at *
  rw [List.flatMap_cons, h1]; rfl
theorem puts_eq {e x : En} {s : List En} (h : x.1 = e.1) : puts (mgE (x :: s) [e]) = e :: s := by
  unfold mgE
  rw [mrg_eq (f := Prod.fst) (g := Prod.fst) h, mrg_r]
  have h1 := put_all s
  unfold puts at *
  rw [List.flatMap_cons, h1]; rfl
theorem puts_nil (e : En) : puts (mgE [] [e]) = [e] := by unfold mgE; rw [mrg_l]; rfl
/-- what the document's loop has made of the first i entries -/
def PI (l : List En) (e : En) (i : Nat) (pt : Bool) (acc : List En) : Prop :=
  match pt with
  | true => acc ++ l.drop i = puts (mgE l [e]) ∧ ∀ y ∈ l.drop i, lt e.1 y.1 = true
  | false => acc = l.take i ∧ ∀ y ∈ l.take i, lt y.1 e.1 = true
theorem PI.nil (l : List En) (e : En) : PI l e 0 false [] := ⟨rfl, fun y hy => by simp at hy⟩
theorem puts_at {l : List En} {e : En} {i : Nat} (hi : i < l.length) (h : ∀ y ∈ l.take i, lt y.1 e.1 = true) : puts (mgE l [e]) = l.take i ++ puts (mgE (l[i] :: l.drop (i + 1)) [e]) := by
  rw [← puts_pre e _ _ h, ← List.drop_eq_getElem_cons hi, List.take_append_drop]
theorem PI.len {l : List En} {e : En} {i : Nat} {pt : Bool} {acc : List En} (h : PI l e i pt acc) (hi : i ≤ l.length) : acc.length ≤ l.length + 1 := by
  cases pt with
  | false => rw [h.1, List.length_take]; omega
  | true =>
    have h1 := congrArg List.length h.1
    have h2 : (puts (mgE l [e])).length ≤ l.length + 1 := Nat.le_trans (flat_le _ put1_le _) (Nat.le_trans (mrg_len _ _) (Nat.le_refl _))
    rw [List.length_append] at h1
    omega
theorem PI.a {l : List En} {k s : ByteArray} {i : Nat} {acc : List En} (h : PI l (k, s) i false acc) (hi : i < l.length) (hl : lt l[i].1 k = true) : PI l (k, s) (i + 1) false (acc ++ [l[i]]) := by
  refine ⟨by rw [h.1, List.take_succ_eq_append_getElem hi], fun y hy => ?_⟩
  rw [List.take_succ_eq_append_getElem hi, List.mem_append, List.mem_singleton] at hy
  rcases hy with hy | rfl
  · exact h.2 y hy
  · exact hl
theorem drop_gt {l : List En} (hp : l.Pairwise (fun x y => lt x.1 y.1 = true)) {i : Nat} (hi : i < l.length) : ∀ y ∈ l.drop (i + 1), lt l[i].1 y.1 = true := by
  have h1 : (l.drop i).Pairwise (fun x y => lt x.1 y.1 = true) := hp.sublist (List.drop_sublist _ _)
  rw [List.drop_eq_getElem_cons hi] at h1
  exact (List.pairwise_cons.1 h1).1
theorem PI.c {l : List En} {k s : ByteArray} {i : Nat} {acc : List En} (h : PI l (k, s) i false acc) (hi : i < l.length) (he : l[i].1 = k) (hp : l.Pairwise (fun x y => lt x.1 y.1 = true)) : PI l (k, s) (i + 1) true (acc ++ [(k, s)]) := by
  refine ⟨?_, fun y hy => ?_⟩
  · rw [puts_at hi h.2, puts_eq he, h.1, List.append_assoc]; rfl
  · have := drop_gt hp hi y hy
    rwa [he] at this
theorem PI.b {l : List En} {k s : ByteArray} {i : Nat} {acc : List En} (h : PI l (k, s) i false acc) (hi : i < l.length) (h1 : lt l[i].1 k = false) (he : ¬ l[i].1 = k) (hp : l.Pairwise (fun x y => lt x.1 y.1 = true)) : PI l (k, s) (i + 1) true ((acc ++ [(k, s)]) ++ [l[i]]) := by
  have h2 : lt k l[i].1 = true := by
    by_cases h3 : lt k l[i].1 = true
    · exact h3
    · exact absurd (lt_total h1 (by simpa using h3)) he
  refine ⟨?_, fun y hy => lt_trans h2 (drop_gt hp hi y hy)⟩
  rw [puts_at hi h.2, puts_gt h2, h.1, List.append_assoc, List.append_assoc]; rfl
theorem PI.d {l : List En} {k s : ByteArray} {i : Nat} {acc : List En} (h : PI l (k, s) i true acc) (hi : i < l.length) : PI l (k, s) (i + 1) true (acc ++ [l[i]]) ∧ l[i].1 ≠ k := by
  obtain ⟨h1, h2⟩ := h
  rw [List.drop_eq_getElem_cons hi] at h1 h2
  exact ⟨⟨by rw [List.append_assoc]; exact h1, fun y hy => h2 y (List.mem_cons_of_mem _ hy)⟩, fun e => lt_ne (h2 _ List.mem_cons_self) e.symm⟩
theorem PI.fin {l : List En} {e : En} {n : Nat} {pt : Bool} {acc : List En} (h : PI l e n pt acc) (hn : n = l.length) : (if pt = true then acc else acc ++ [e]) = puts (mgE l [e]) := by
  cases pt with
  | true =>
    obtain ⟨h1, _⟩ := h
    rw [if_pos rfl, ← h1, hn, List.drop_length, List.append_nil]
  | false =>
    obtain ⟨h1, h2⟩ := h
    rw [if_neg (by decide), h1]
    rw [hn, List.take_length] at *
    have := puts_pre e [] l h2
    rw [List.append_nil, puts_nil] at this
    exact this.symm
theorem entQL : ∀ args (w : World), (callFunc 50 args).run Try.prog w = .ok (.enter 50 args) w := by
  intro args w
  go_simp
theorem putV_no1 {l : List En} {e : En} (h : liB l = false) : putV l e = ([], 140) := by
  unfold putV
  refine if_neg fun hh => ?_
  rw [(okB_true.1 hh.1).li] at h; cases h
theorem putV_no2 {l : List En} {e : En} (h : liB [e] = false) : putV l e = ([], 140) := by
  unfold putV
  refine if_neg fun hh => ?_
  rw [(okB_true.1 hh.2).li] at h; cases h
theorem putV_ne {l : List En} {e : En} (h0 : 0 < l.length) (h : ¬ (e.2.size : Int) = (l[0].2.size : Int)) : putV l e = ([], 140) := by
  unfold putV
  refine if_neg fun hh => h ?_
  exact ((okB_true.1 hh.1).wid 0 h0).symm
theorem putV_nil {l : List En} {e : En} (hl : l = []) (h : liB [e] = true) : putV l e = (puts (mgE l [e]), 0) := by
  subst hl
  unfold putV
  exact if_pos ⟨okB_nil (okB_true.1 h).1, h⟩
theorem putV_eq {l : List En} {e : En} (h0 : 0 < l.length) (h1 : liB l = true) (h2 : liB [e] = true) (h : (e.2.size : Int) = (l[0].2.size : Int)) : putV l e = (puts (mgE l [e]), 0) := by
  unfold putV
  refine if_pos ⟨?_, h2⟩
  cases l with
  | nil => cases h0
  | cons x l => rw [h]; exact h1
set_option maxRecDepth 100000 in
set_option maxHeartbeats 8000000 in
theorem qPut (l : List En) (ao : Option Addr) (n c : Nat) (ek es : ByteArray) (u : World) (h : El u l ao n c) (dl : List En) (r : Int) (hv : putV l (ek, es) = (dl, r)) : Calls Try.prog 32 #[.slice ao n c, .agg #[.string ek, .string es]] u fun e u' => ∃ xo m cc, e = .returned (.tuple #[.slice xo m cc, .int .i64 r]) ∧ m = dl.length ∧ RE.Own u' u.heap.size dl xo cc ∧ Below u.heap.size u u' := by
  have hmix : Try.prog.follows .mixedOrders = true := by kernel_rfl
  have HH := hide h
  have hnf := h.few
  have hni : (n : Int) ≤ 4398046511000 := by omega
  have HRN := hide h.hn
  have HQ1 := hide fun (G : World) (hG : Below u.heap.size u G) => qList l ao n c G (h.below hG)
  have HL2 : Hid (∀ (G : World) (g : Nat), El G [(ek, es)] (some ⟨g, 0, none⟩) 1 1 → Calls Try.prog 50 #[.slice (some ⟨g, 0, none⟩) 1 1] G fun e u' => e = .returned (.bool (liB [(ek, es)])) ∧ Below G.heap.size G u') := fun G g hG => qList [(ek, es)] _ 1 1 G hG
  obtain ⟨N, hN⟩ : ∃ N, N = u.heap.size := ⟨_, rfl⟩
  have HN := hide hN
  have HNU : Hid (∀ G : World, Below N u G → Below u.heap.size u G) := fun G hG => by rw [← hN]; exact hG
  clear hN
  by_cases h1 : liB l = true
  · rw [h1] at HQ1
    have HPR := hide (li_pair h1)
    by_cases h2 : liB [(ek, es)] = true
    · rw [h2] at HL2
      by_cases h0 : 0 < n
      · have hl0 : 0 < l.length := by rw [← h.hn]; exact h0
        have hpos : (0 : Int) < (n : Int) := by omega
        obtain ⟨g, o, hao, z1, z2⟩ := h.en hl0
        clear z1 z2
        have HC0 : Hid (∀ G : World, Below u.heap.size u G → G.cell? ⟨g, o + 1, none⟩ = some (.string l[0].2)) := fun G hG => by
          obtain ⟨g', o', hao', _, d2⟩ := (h.below hG).en hl0
          rw [hao] at hao'
          cases hao'
          rwa [Nat.zero_mul, Nat.add_zero] at d2
        have hix0 : ∀ W : World, (Instr.indexAt 27 (.slice ao n c) (.int .i64 0)).run Try.prog W = .ok (.pointer (some ⟨g, o, none⟩)) W := fun W => by rw [hao]; exact ixE0 g o n c h0 W
        by_cases h3 : (es.size : Int) = (l[0].2.size : Int)
        · rw [putV_eq hl0 h1 h2 h3] at hv
          cases hv
          obtain ⟨s0, hs0⟩ : ∃ s, s = l[0].2 := ⟨_, rfl⟩
          rw [← hs0] at HC0 h3
          have hb3 : ((es.size : Int) == (s0.size : Int)) = true := beq_iff_eq.2 h3
          clear hs0 h h1 h2 hnf hao hl0
          go_enter Try.func32, Try.ntmps32
          go_wp2_with (first
            | ((with_reducible refine wpList_box_en (by rfl) (.tmp 1) (by rfl) (some 3) (by rfl) N (unhide HN) ek es (by with_unfolding_all rfl) ?_); intro W1 HX1 HB1 HS1; simp only [Act.put, List.setIfInBounds_toArray, List.set_cons_zero, List.set_cons_succ]; have HU1 : Hid (Below u.heap.size u W1) := unhide HNU _ (unhide HB1); have HL1 : Hid (∀ G : World, Below W1.heap.size W1 G → Calls Try.prog 50 #[.slice ao n c] G fun e u' => e = .returned (.bool true) ∧ Below G.heap.size G u') := fun G hG => unhide HQ1 G (Below.step (unhide HU1) hG))
            | fail)
          clear HS1
          have hC0 : ∀ G : World, Below W1.heap.size W1 G → G.cell? ⟨g, o + 1, none⟩ = some (.string s0) := fun G hG => unhide HC0 G (Below.step (unhide HU1) hG)
          refine wp_region_last (fun G => Below W1.heap.size W1 G) 24 hmix (belowDrew (Below.refl _ _)) fun hS => ?_
          generalize W1.drew = X0 at hS ⊢
          refine wpAnyL_take 0 9 (.slice ao n c) [1, 3, 6, 9] rfl rfl (by kernel_rfl) (by kernel_rfl) (by kernel_rfl) (by kernel_rfl) (by kernel_rfl) (fun _ _ _ h => h) (by rfl) (fun _ _ => by go_simp) hS ?_
          simp only [Act.put, List.setIfInBounds_toArray, List.set_cons_zero, List.set_cons_succ]
          refine wpAnyL_one (i := 1) (by kernel_rfl) rfl (by rfl) fun K hK => ?_
          refine wp_call_fn 50 _ _ (by rfl) #[.slice ao n c] (by with_unfolding_all rfl) entQL (some 10) (by rfl) _ (asV (unhide HL1 X0 hS)) ?_
          rintro _ X1 ⟨rfl, hb⟩
          have HS1 : Hid (Below W1.heap.size W1 X1) := Below.step hS hb
          clear hb hS
          refine hK _ _ (fun _ => unhide HS1) ?_
          clear hK K
          simp only [Act.put, List.setIfInBounds_toArray, List.set_cons_zero, List.set_cons_succ]
          refine wpAnyL_take 2 11 (.bool false) [3, 6, 9] rfl rfl (by kernel_rfl) (by kernel_rfl) (by kernel_rfl) (by kernel_rfl) (by kernel_rfl) (fun _ _ _ h => h) (by rfl) (fun _ _ => by go_simp) (unhide HS1) ?_
          simp only [Act.put, List.setIfInBounds_toArray, List.set_cons_zero, List.set_cons_succ]
          refine wpAnyL_take 3 12 (.bool false) [6, 9] rfl rfl (by kernel_rfl) (by kernel_rfl) (by kernel_rfl) (by kernel_rfl) (by kernel_rfl) (fun _ _ _ h => h) (by rfl) (fun _ _ => by go_simp) (unhide HS1) ?_
          simp only [Act.put, List.setIfInBounds_toArray, List.set_cons_zero, List.set_cons_succ]
          refine wpAnyL_take 4 13 (.agg #[.string ek, .string es]) [5, 6, 9] rfl rfl (by kernel_rfl) (by kernel_rfl) (by kernel_rfl) (by kernel_rfl) (by kernel_rfl) (fun _ _ _ h => h) (by rfl) (fun G hG => by obtain ⟨e0, e1⟩ := box2 (box_below (unhide HX1) hG); go_simp) (unhide HS1) ?_
          simp only [Act.put, List.setIfInBounds_toArray, List.set_cons_zero, List.set_cons_succ]
          refine wpAnyL_one (i := 5) (by kernel_rfl) rfl (by rfl) fun K hK => ?_
          refine wp_buildTo (by rfl) (.slice (some ⟨X1.heap.size, 0, none⟩) 1 1) (X1.alloc (.cells #[.string ek, .string es] 43)) (by simp only [List.map_toArray, List.map_cons, List.map_nil]; exact bsE X1 ek es) (some 14) (by rfl) ?_
          have HS2 : Hid (Below W1.heap.size W1 (X1.alloc (.cells #[.string ek, .string es] 43))) := (unhide HS1).alloc (unhide HS1).size _
          have HE2 : Hid (El (X1.alloc (.cells #[.string ek, .string es] 43)) [(ek, es)] (some ⟨X1.heap.size, 0, none⟩) 1 1) := El.one X1 (ek, es) _
          refine hK _ _ (fun _ => unhide HS2) ?_
          clear hK K
          simp only [Act.put, List.setIfInBounds_toArray, List.set_cons_zero, List.set_cons_succ]
          generalize X1.alloc (.cells #[.string ek, .string es] 43) = X2 at HS2 HE2 ⊢
          clear HS1
          refine wpAnyL_one (i := 6) (by kernel_rfl) rfl (by rfl) fun K hK => ?_
          refine wp_call_fn 50 _ _ (by rfl) #[.slice (some ⟨X1.heap.size, 0, none⟩) 1 1] (by with_unfolding_all rfl) entQL (some 15) (by rfl) _ (asV (unhide HL2 X2 _ (unhide HE2))) ?_
          rintro _ X3 ⟨rfl, hb⟩
          have HS3 : Hid (Below W1.heap.size W1 X3) := Below.step (unhide HS2) hb
          clear hb HS2 HE2
          refine hK _ _ (fun _ => unhide HS3) ?_
          clear hK K
          simp only [Act.put, List.setIfInBounds_toArray, List.set_cons_zero, List.set_cons_succ]
          refine wpAnyL_take 7 16 (.bool false) [8, 9] rfl rfl (by kernel_rfl) (by kernel_rfl) (by kernel_rfl) (by kernel_rfl) (by kernel_rfl) (fun _ _ _ h => h) (by rfl) (fun _ _ => by go_simp) (unhide HS3) ?_
          simp only [Act.put, List.setIfInBounds_toArray, List.set_cons_zero, List.set_cons_succ]
          refine wpAnyL_take 8 17 (.bool false) [9] rfl rfl (by kernel_rfl) (by kernel_rfl) (by kernel_rfl) (by kernel_rfl) (by kernel_rfl) (fun _ _ _ h => h) (by rfl) (fun _ _ => by go_simp) (unhide HS3) ?_
          simp only [Act.put, List.setIfInBounds_toArray, List.set_cons_zero, List.set_cons_succ]
          refine wpAnyL_take 9 18 (.bool false) [] rfl rfl (by kernel_rfl) (by kernel_rfl) (by kernel_rfl) (by kernel_rfl) (by kernel_rfl) (fun _ _ _ h => h) (by rfl) (fun _ _ => by go_simp) (unhide HS3) ?_
          simp only [Act.put, List.setIfInBounds_toArray, List.set_cons_zero, List.set_cons_succ]
          refine wpAnyL_take 10 19 (.slice ao n c) [11, 12, 13, 23] rfl rfl (by kernel_rfl) (by kernel_rfl) (by kernel_rfl) (by kernel_rfl) (by kernel_rfl) (fun _ _ _ h => h) (by rfl) (fun _ _ => by go_simp) (unhide HS3) ?_
          simp only [Act.put, List.setIfInBounds_toArray, List.set_cons_zero, List.set_cons_succ]
          refine wpAnyL_take 11 20 (.int .i64 (n : Int)) [12, 13, 23] rfl rfl (by kernel_rfl) (by kernel_rfl) (by kernel_rfl) (by kernel_rfl) (by kernel_rfl) (fun _ _ _ h => h) (by rfl) (fun _ _ => by go_simp) (unhide HS3) ?_
          simp only [Act.put, List.setIfInBounds_toArray, List.set_cons_zero, List.set_cons_succ]
          refine wpAnyL_take 12 21 (.bool true) [13, 23] rfl rfl (by kernel_rfl) (by kernel_rfl) (by kernel_rfl) (by kernel_rfl) (by kernel_rfl) (fun _ _ _ h => h) (by rfl) (fun _ _ => by go_simp) (unhide HS3) ?_
          simp only [Act.put, List.setIfInBounds_toArray, List.set_cons_zero, List.set_cons_succ]
          refine wpAnyL_take 13 22 (.bool true) [23] rfl rfl (by kernel_rfl) (by kernel_rfl) (by kernel_rfl) (by kernel_rfl) (by kernel_rfl) (fun _ _ _ h => h) (by rfl) (fun _ _ => by go_simp) (unhide HS3) ?_
          simp only [Act.put, List.setIfInBounds_toArray, List.set_cons_zero, List.set_cons_succ]
          refine wpAnyL_take 14 23 (.pointer (some ⟨N, 1, none⟩)) [15, 16, 22, 23] rfl rfl (by kernel_rfl) (by kernel_rfl) (by kernel_rfl) (by kernel_rfl) (by kernel_rfl) (fun _ _ _ h => h) (by rfl) (fun _ _ => by go_simp) (unhide HS3) ?_
          simp only [Act.put, List.setIfInBounds_toArray, List.set_cons_zero, List.set_cons_succ]
          refine wpAnyL_take 15 24 (.string es) [16, 22, 23] rfl rfl (by kernel_rfl) (by kernel_rfl) (by kernel_rfl) (by kernel_rfl) (by kernel_rfl) (fun _ _ _ h => h) (by rfl) (fun G hG => by obtain ⟨e0, e1⟩ := box2 (box_below (unhide HX1) hG); go_simp) (unhide HS3) ?_
          simp only [Act.put, List.setIfInBounds_toArray, List.set_cons_zero, List.set_cons_succ]
          refine wpAnyL_take 16 25 (.int .i64 (es.size : Int)) [22, 23] rfl rfl (by kernel_rfl) (by kernel_rfl) (by kernel_rfl) (by kernel_rfl) (by kernel_rfl) (fun _ _ _ h => h) (by rfl) (fun _ _ => by go_simp) (unhide HS3) ?_
          simp only [Act.put, List.setIfInBounds_toArray, List.set_cons_zero, List.set_cons_succ]
          refine wpAnyL_take 17 26 (.slice ao n c) [18, 19, 20, 21, 22, 23] rfl rfl (by kernel_rfl) (by kernel_rfl) (by kernel_rfl) (by kernel_rfl) (by kernel_rfl) (fun _ _ _ h => h) (by rfl) (fun _ _ => by go_simp) (unhide HS3) ?_
          simp only [Act.put, List.setIfInBounds_toArray, List.set_cons_zero, List.set_cons_succ]
          refine wpAnyL_take 18 27 (.pointer (some ⟨g, o, none⟩)) [19, 20, 21, 22, 23] rfl rfl (by kernel_rfl) (by kernel_rfl) (by kernel_rfl) (by kernel_rfl) (by kernel_rfl) (fun _ _ _ h => h) (by rfl) (fun _ _ => by go_simp) (unhide HS3) ?_
          simp only [Act.put, List.setIfInBounds_toArray, List.set_cons_zero, List.set_cons_succ]
          refine wpAnyL_take 19 28 (.pointer (some ⟨g, o + 1, none⟩)) [20, 21, 22, 23] rfl rfl (by kernel_rfl) (by kernel_rfl) (by kernel_rfl) (by kernel_rfl) (by kernel_rfl) (fun _ _ _ h => h) (by rfl) (fun _ _ => by go_simp) (unhide HS3) ?_
          simp only [Act.put, List.setIfInBounds_toArray, List.set_cons_zero, List.set_cons_succ]
          refine wpAnyL_take 20 29 (.string s0) [21, 22, 23] rfl rfl (by kernel_rfl) (by kernel_rfl) (by kernel_rfl) (by kernel_rfl) (by kernel_rfl) (fun _ _ _ h => h) (by rfl) (fun G hG => by have e1 := hC0 G hG; go_simp) (unhide HS3) ?_
          simp only [Act.put, List.setIfInBounds_toArray, List.set_cons_zero, List.set_cons_succ]
          refine wpAnyL_take 21 30 (.int .i64 (s0.size : Int)) [22, 23] rfl rfl (by kernel_rfl) (by kernel_rfl) (by kernel_rfl) (by kernel_rfl) (by kernel_rfl) (fun _ _ _ h => h) (by rfl) (fun _ _ => by go_simp) (unhide HS3) ?_
          simp only [Act.put, List.setIfInBounds_toArray, List.set_cons_zero, List.set_cons_succ]
          refine wpAnyL_take 22 31 (.bool false) [23] rfl rfl (by kernel_rfl) (by kernel_rfl) (by kernel_rfl) (by kernel_rfl) (by kernel_rfl) (fun _ _ _ h => h) (by rfl) (fun _ _ => by go_simp) (unhide HS3) ?_
          simp only [Act.put, List.setIfInBounds_toArray, List.set_cons_zero, List.set_cons_succ]
          refine wpAnyL_take 23 32 (.bool false) [] rfl rfl (by kernel_rfl) (by kernel_rfl) (by kernel_rfl) (by kernel_rfl) (by kernel_rfl) (fun _ _ _ h => h) (by rfl) (fun _ _ => by go_simp) (unhide HS3) ?_
          simp only [Act.put, List.setIfInBounds_toArray, List.set_cons_zero, List.set_cons_succ]
          refine wpAnyL_one (i := 24) (by kernel_rfl) rfl (by rfl) fun K hK => ?_
          refine wp_val (.bool false) (by go_simp) (some 33) (by rfl) ?_
          refine hK _ _ (fun _ => unhide HS3) ?_
          clear hK K
          simp only [Act.put, List.setIfInBounds_toArray, List.set_cons_zero, List.set_cons_succ]
          refine wpAnyL_done (by kernel_rfl) ?_ _
          have HSE := HS3
          clear HS3
          clear h0 hix0 hpos HC0 hC0 h3 hb3 HL1 HL2 HQ1
          have HBX : Hid (∀ G : World, Below W1.heap.size W1 G → G.cell? ⟨N, 0, none⟩ = some (.string ek) ∧ G.cell? ⟨N, 1, none⟩ = some (.string es)) := fun G hG => box2 (box_below (unhide HX1) hG)
          have HWL : Hid (W1.heap.size ≥ u.heap.size) := (unhide HU1).size
          go_wp2
          go_loopw [6, 7, 8] (fun so st si wr => ∃ (i m cc : Nat) (xo : Option Addr) (pt : Bool) (acc : List En), i ≤ n ∧ si = .int .i64 i ∧ st = .bool pt ∧ so = .slice xo m cc ∧ Hid (PI l (ek, es) i pt acc) ∧ Hid (m = acc.length) ∧ Hid (RE.Own wr W1.heap.size acc xo cc) ∧ Hid (Below W1.heap.size W1 wr)) (fun _ _ si _ => n - (intOf si).toNat)
          case atStart => exact ⟨0, 0, 0, none, false, [], Nat.zero_le _, rfl, rfl, rfl, PI.nil _ _, rfl, Rec.Own.none _ _, unhide HSE⟩
          case round =>
            clear HSE
            obtain ⟨i, m, cc, xo, pt, acc, hin, rfl, rfl, rfl, HPI, HML, HO, HI⟩ := hrel
            have HLE : Hid ((acc.length + [(ek, es)].length) * 32 ≤ 140737488355328) := by
              have h1 := (unhide HPI).len (by rw [← unhide HRN]; exact hin)
              have h2 := unhide HRN
              show (_ + 1) * 32 ≤ _; omega
            by_cases hlt : i < n
            · have hii : (i : Int) < (n : Int) := by omega
              have hil : i < l.length := by rw [← unhide HRN]; exact hlt
              have HLX : Hid (∀ x : En, (acc.length + [x].length) * 32 ≤ 140737488355328) := fun x => unhide HLE
              have HLY : Hid (∀ x : En, ((acc ++ [(ek, es)]).length + [x].length) * 32 ≤ 140737488355328) := fun x => by
                have h1 := (unhide HPI).len (by omega)
                have h2 := unhide HRN
                rw [List.length_append]; show (_ + 1 + 1) * 32 ≤ _; omega
              obtain ⟨g, o, hao, z1, z2⟩ := ((unhide HH).below (Below.step (unhide HU1) (unhide HI))).en hil
              clear z1 z2
              have HCL : Hid (∀ G : World, Below W1.heap.size W1 G → G.cell? ⟨g, o + i * 2, none⟩ = some (.string l[i].1) ∧ G.cell? ⟨g, o + i * 2 + 1, none⟩ = some (.string l[i].2)) := fun G hG => by
                obtain ⟨g', o', hao', d1, d2⟩ := ((unhide HH).below (Below.step (unhide HU1) hG)).en hil
                rw [hao] at hao'
                cases hao'
                exact ⟨d1, d2⟩
              have hix := ixE g o n c i hlt
              rw [hao] at *
              cases pt
              · by_cases h1 : lt l[i].1 ek = true
                · have HN1 := hide ((unhide HPI).a hil h1)
                  have hq0 : ¬ l[i].1 = ek := lt_ne h1
                  unfold lt at h1
                  generalize l[i] = x at *
                  obtain ⟨xk, xs⟩ := x
                  have HCL : Hid (∀ G : World, Below W1.heap.size W1 G → G.cell? ⟨g, o + i * 2, none⟩ = some (.string xk) ∧ G.cell? ⟨g, o + i * 2 + 1, none⟩ = some (.string xs)) := HCL
                  generalize o + i * 2 = oo at *
                  have h1 : Op.bytesLess xk.toList ek.toList = true := h1
                  have hq : (xk.toList == ek.toList) = false := by rw [ba_beq]; exact decide_eq_false hq0
                  clear hq0
                  have HLX := hide (unhide HLX (xk, xs))
                  go_wp2_with fail
                  refine wp_region_last (fun G => Below W1.heap.size W1 G) 11 hmix (belowDrew (unhide HI)) fun hS => ?_
                  have HOY1 : Hid (RE.Own wr.drew W1.heap.size (acc) xo cc) := (unhide HO).below (belowDrew (Below.refl _ _))
                  generalize wr.drew = Y1 at hS HOY1 ⊢
                  refine wpAnyL_take 0 40 (.bool false) [1, 2] rfl rfl (by kernel_rfl) (by kernel_rfl) (by kernel_rfl) (by kernel_rfl) (by kernel_rfl) (fun _ _ _ h => h) (by rfl) (fun _ _ => by go_simp) hS ?_
                  simp only [Act.put, List.setIfInBounds_toArray, List.set_cons_zero, List.set_cons_succ]
                  refine wpAnyL_take 1 41 (.bool true) [2] rfl rfl (by kernel_rfl) (by kernel_rfl) (by kernel_rfl) (by kernel_rfl) (by kernel_rfl) (fun _ _ _ h => h) (by rfl) (fun _ _ => by go_simp) hS ?_
                  simp only [Act.put, List.setIfInBounds_toArray, List.set_cons_zero, List.set_cons_succ]
                  refine wpAnyL_take 2 42 (.bool true) [] rfl rfl (by kernel_rfl) (by kernel_rfl) (by kernel_rfl) (by kernel_rfl) (by kernel_rfl) (fun _ _ _ h => h) (by rfl) (fun _ _ => by go_simp) hS ?_
                  simp only [Act.put, List.setIfInBounds_toArray, List.set_cons_zero, List.set_cons_succ]
                  refine wpAnyL_take 3 43 (.slice (some ⟨g, o, none⟩) n c) [5, 6, 7, 10] rfl rfl (by kernel_rfl) (by kernel_rfl) (by kernel_rfl) (by kernel_rfl) (by kernel_rfl) (fun _ _ _ h => h) (by rfl) (fun _ _ => by go_simp) hS ?_
                  simp only [Act.put, List.setIfInBounds_toArray, List.set_cons_zero, List.set_cons_succ]
                  refine wpAnyL_take 4 44 (.int .i64 (i : Int)) [5, 6, 7, 10] rfl rfl (by kernel_rfl) (by kernel_rfl) (by kernel_rfl) (by kernel_rfl) (by kernel_rfl) (fun _ _ _ h => h) (by rfl) (fun _ _ => by go_simp) hS ?_
                  simp only [Act.put, List.setIfInBounds_toArray, List.set_cons_zero, List.set_cons_succ]
                  refine wpAnyL_take 5 45 (.pointer (some ⟨g, oo, none⟩)) [6, 7, 10] rfl rfl (by kernel_rfl) (by kernel_rfl) (by kernel_rfl) (by kernel_rfl) (by kernel_rfl) (fun _ _ _ h => h) (by rfl) (fun _ _ => by go_simp) hS ?_
                  simp only [Act.put, List.setIfInBounds_toArray, List.set_cons_zero, List.set_cons_succ]
                  refine wpAnyL_take 6 46 (.pointer (some ⟨g, oo, none⟩)) [7, 10] rfl rfl (by kernel_rfl) (by kernel_rfl) (by kernel_rfl) (by kernel_rfl) (by kernel_rfl) (fun _ _ _ h => h) (by rfl) (fun _ _ => by go_simp) hS ?_
                  simp only [Act.put, List.setIfInBounds_toArray, List.set_cons_zero, List.set_cons_succ]
                  refine wpAnyL_take 7 47 (.string xk) [10] rfl rfl (by kernel_rfl) (by kernel_rfl) (by kernel_rfl) (by kernel_rfl) (by kernel_rfl) (fun _ _ _ h => h) (by rfl) (fun G hG => by obtain ⟨e0, e1⟩ := unhide HCL G hG; go_simp) hS ?_
                  simp only [Act.put, List.setIfInBounds_toArray, List.set_cons_zero, List.set_cons_succ]
                  refine wpAnyL_take 8 48 (.pointer (some ⟨N, 0, none⟩)) [9, 10] rfl rfl (by kernel_rfl) (by kernel_rfl) (by kernel_rfl) (by kernel_rfl) (by kernel_rfl) (fun _ _ _ h => h) (by rfl) (fun _ _ => by go_simp) hS ?_
                  simp only [Act.put, List.setIfInBounds_toArray, List.set_cons_zero, List.set_cons_succ]
                  refine wpAnyL_take 9 49 (.string ek) [10] rfl rfl (by kernel_rfl) (by kernel_rfl) (by kernel_rfl) (by kernel_rfl) (by kernel_rfl) (fun _ _ _ h => h) (by rfl) (fun G hG => by obtain ⟨e0, e1⟩ := unhide HBX G hG; go_simp) hS ?_
                  simp only [Act.put, List.setIfInBounds_toArray, List.set_cons_zero, List.set_cons_succ]
                  refine wpAnyL_take 10 50 (.bool false) [] rfl rfl (by kernel_rfl) (by kernel_rfl) (by kernel_rfl) (by kernel_rfl) (by kernel_rfl) (fun _ _ _ h => h) (by rfl) (fun _ _ => by go_simp) hS ?_
                  simp only [Act.put, List.setIfInBounds_toArray, List.set_cons_zero, List.set_cons_succ]
                  refine wpAnyL_one (i := 11) (by kernel_rfl) rfl (by rfl) fun K hK => ?_
                  refine wp_val (.bool false) (by go_simp) (some 51) (by rfl) ?_
                  refine hK _ _ (fun _ => hS) ?_
                  clear hK K
                  simp only [Act.put, List.setIfInBounds_toArray, List.set_cons_zero, List.set_cons_succ]
                  refine wpAnyL_done (by kernel_rfl) ?_ _
                  have HIY1 := hide hS
                  clear hS
                  obtain ⟨c1Y1, c2Y1⟩ := unhide HCL Y1 (unhide HIY1)
                  obtain ⟨b1Y1, b2Y1⟩ := unhide HBX Y1 (unhide HIY1)
                  go_wp2_with fail
                  refine wp_region_last (fun G => Below W1.heap.size W1 G) 7 hmix (belowDrew (unhide HIY1)) fun hS => ?_
                  have HOY2 : Hid (RE.Own Y1.drew W1.heap.size (acc) xo cc) := (unhide HOY1).below (belowDrew (Below.refl _ _))
                  generalize Y1.drew = Y2 at hS HOY2 ⊢
                  refine wpAnyL_take 0 56 (.slice (some ⟨g, o, none⟩) n c) [2, 3, 4] rfl rfl (by kernel_rfl) (by kernel_rfl) (by kernel_rfl) (by kernel_rfl) (by kernel_rfl) (fun _ _ _ h => h) (by rfl) (fun _ _ => by go_simp) hS ?_
                  simp only [Act.put, List.setIfInBounds_toArray, List.set_cons_zero, List.set_cons_succ]
                  refine wpAnyL_take 1 57 (.int .i64 (i : Int)) [2, 3, 4] rfl rfl (by kernel_rfl) (by kernel_rfl) (by kernel_rfl) (by kernel_rfl) (by kernel_rfl) (fun _ _ _ h => h) (by rfl) (fun _ _ => by go_simp) hS ?_
                  simp only [Act.put, List.setIfInBounds_toArray, List.set_cons_zero, List.set_cons_succ]
                  refine wpAnyL_take 2 58 (.pointer (some ⟨g, oo, none⟩)) [3, 4] rfl rfl (by kernel_rfl) (by kernel_rfl) (by kernel_rfl) (by kernel_rfl) (by kernel_rfl) (fun _ _ _ h => h) (by rfl) (fun _ _ => by go_simp) hS ?_
                  simp only [Act.put, List.setIfInBounds_toArray, List.set_cons_zero, List.set_cons_succ]
                  refine wpAnyL_take 3 59 (.pointer (some ⟨g, oo, none⟩)) [4] rfl rfl (by kernel_rfl) (by kernel_rfl) (by kernel_rfl) (by kernel_rfl) (by kernel_rfl) (fun _ _ _ h => h) (by rfl) (fun _ _ => by go_simp) hS ?_
                  simp only [Act.put, List.setIfInBounds_toArray, List.set_cons_zero, List.set_cons_succ]
                  refine wpAnyL_take 4 60 (.string xk) [] rfl rfl (by kernel_rfl) (by kernel_rfl) (by kernel_rfl) (by kernel_rfl) (by kernel_rfl) (fun _ _ _ h => h) (by rfl) (fun G hG => by obtain ⟨e0, e1⟩ := unhide HCL G hG; go_simp) hS ?_
                  simp only [Act.put, List.setIfInBounds_toArray, List.set_cons_zero, List.set_cons_succ]
                  refine wpAnyL_take 5 61 (.pointer (some ⟨N, 0, none⟩)) [6] rfl rfl (by kernel_rfl) (by kernel_rfl) (by kernel_rfl) (by kernel_rfl) (by kernel_rfl) (fun _ _ _ h => h) (by rfl) (fun _ _ => by go_simp) hS ?_
                  simp only [Act.put, List.setIfInBounds_toArray, List.set_cons_zero, List.set_cons_succ]
                  refine wpAnyL_take 6 62 (.string ek) [] rfl rfl (by kernel_rfl) (by kernel_rfl) (by kernel_rfl) (by kernel_rfl) (by kernel_rfl) (fun _ _ _ h => h) (by rfl) (fun G hG => by obtain ⟨e0, e1⟩ := unhide HBX G hG; go_simp) hS ?_
                  simp only [Act.put, List.setIfInBounds_toArray, List.set_cons_zero, List.set_cons_succ]
                  refine wpAnyL_one (i := 7) (by kernel_rfl) rfl (by rfl) fun K hK => ?_
                  refine wp_val (.bool true) (by go_simp) (some 63) (by rfl) ?_
                  refine hK _ _ (fun _ => hS) ?_
                  clear hK K
                  simp only [Act.put, List.setIfInBounds_toArray, List.set_cons_zero, List.set_cons_succ]
                  refine wpAnyL_done (by kernel_rfl) ?_ _
                  have HIY2 := hide hS
                  clear hS
                  obtain ⟨c1Y2, c2Y2⟩ := unhide HCL Y2 (unhide HIY2)
                  obtain ⟨b1Y2, b2Y2⟩ := unhide HBX Y2 (unhide HIY2)
                  have HO4' : Hid (RE.Own (Y2.alloc (.cells #[.string xk, .string xs] 43)) W1.heap.size (acc) xo cc) := (unhide HOY2).below ((Below.refl _ _).alloc (Nat.le_refl _) _)
                  have HA4' : Hid (RE.At (Y2.alloc (.cells #[.string xk, .string xs] 43)) [(xk, xs)] (some ⟨Y2.heap.size, 0, none⟩) 1) := RE.one Y2 (xk, xs) _
                  have HZ4' : Hid (W1.heap.size ≤ (Y2.alloc (.cells #[.string xk, .string xs] 43)).heap.size) := Nat.le_trans (unhide HIY2).size (szNew Y2 _)
                  go_wp2_with (first
                    | (at_builtin; (with_reducible refine wpList_putE (by rfl) (.tmp 64) (.tmp 69) (by rfl) (some 70) (by rfl) W1.heap.size (acc) [(xk, xs)] m 1 (unhide HML) rfl xo (some ⟨Y2.heap.size, 0, none⟩) cc 1 (by with_unfolding_all rfl) (by with_unfolding_all rfl) (unhide HO4') (unhide HA4') (unhide HLX) (unhide HZ4') ?_); intro x4 n4 c4 V4 HP4; simp only [Act.put, List.setIfInBounds_toArray, List.set_cons_zero, List.set_cons_succ]; have HI4 : Hid (Below W1.heap.size W1 V4) := ((unhide HIY2).alloc (unhide HIY2).size _).trans (unhide HP4).below; have HML4 : Hid (n4 = (acc ++ [(xk, xs)]).length) := (unhide HP4).len; have HOO4 := hide (unhide HP4).own)
                    | fail)
                  go_roundw
                  case rel => exact ⟨i + 1, n4, c4, x4, false, acc ++ [(xk, xs)], by omega, by go_num, rfl, rfl, unhide HN1, unhide HML4, unhide HOO4, unhide HI4⟩
                  case measure => simp [intOf]; omega
                · rw [Bool.not_eq_true] at h1
                  by_cases h2 : l[i].1 = ek
                  · have HN1 := hide ((unhide HPI).c hil h2 (unhide HPR))
                    unfold lt at h1
                    generalize l[i] = x at *
                    obtain ⟨xk, xs⟩ := x
                    have HCL : Hid (∀ G : World, Below W1.heap.size W1 G → G.cell? ⟨g, o + i * 2, none⟩ = some (.string xk) ∧ G.cell? ⟨g, o + i * 2 + 1, none⟩ = some (.string xs)) := HCL
                    generalize o + i * 2 = oo at *
                    have h1 : Op.bytesLess xk.toList ek.toList = false := h1
                    have hq : (xk.toList == ek.toList) = true := by rw [ba_beq]; exact decide_eq_true h2
                    clear h2
                    go_wp2_with fail
                    refine wp_region_last (fun G => Below W1.heap.size W1 G) 11 hmix (belowDrew (unhide HI)) fun hS => ?_
                    have HOY1 : Hid (RE.Own wr.drew W1.heap.size (acc) xo cc) := (unhide HO).below (belowDrew (Below.refl _ _))
                    generalize wr.drew = Y1 at hS HOY1 ⊢
                    refine wpAnyL_take 0 40 (.bool false) [1, 2] rfl rfl (by kernel_rfl) (by kernel_rfl) (by kernel_rfl) (by kernel_rfl) (by kernel_rfl) (fun _ _ _ h => h) (by rfl) (fun _ _ => by go_simp) hS ?_
                    simp only [Act.put, List.setIfInBounds_toArray, List.set_cons_zero, List.set_cons_succ]
                    refine wpAnyL_take 1 41 (.bool true) [2] rfl rfl (by kernel_rfl) (by kernel_rfl) (by kernel_rfl) (by kernel_rfl) (by kernel_rfl) (fun _ _ _ h => h) (by rfl) (fun _ _ => by go_simp) hS ?_
                    simp only [Act.put, List.setIfInBounds_toArray, List.set_cons_zero, List.set_cons_succ]
                    refine wpAnyL_take 2 42 (.bool true) [] rfl rfl (by kernel_rfl) (by kernel_rfl) (by kernel_rfl) (by kernel_rfl) (by kernel_rfl) (fun _ _ _ h => h) (by rfl) (fun _ _ => by go_simp) hS ?_
                    simp only [Act.put, List.setIfInBounds_toArray, List.set_cons_zero, List.set_cons_succ]
                    refine wpAnyL_take 3 43 (.slice (some ⟨g, o, none⟩) n c) [5, 6, 7, 10] rfl rfl (by kernel_rfl) (by kernel_rfl) (by kernel_rfl) (by kernel_rfl) (by kernel_rfl) (fun _ _ _ h => h) (by rfl) (fun _ _ => by go_simp) hS ?_
                    simp only [Act.put, List.setIfInBounds_toArray, List.set_cons_zero, List.set_cons_succ]
                    refine wpAnyL_take 4 44 (.int .i64 (i : Int)) [5, 6, 7, 10] rfl rfl (by kernel_rfl) (by kernel_rfl) (by kernel_rfl) (by kernel_rfl) (by kernel_rfl) (fun _ _ _ h => h) (by rfl) (fun _ _ => by go_simp) hS ?_
                    simp only [Act.put, List.setIfInBounds_toArray, List.set_cons_zero, List.set_cons_succ]
                    refine wpAnyL_take 5 45 (.pointer (some ⟨g, oo, none⟩)) [6, 7, 10] rfl rfl (by kernel_rfl) (by kernel_rfl) (by kernel_rfl) (by kernel_rfl) (by kernel_rfl) (fun _ _ _ h => h) (by rfl) (fun _ _ => by go_simp) hS ?_
                    simp only [Act.put, List.setIfInBounds_toArray, List.set_cons_zero, List.set_cons_succ]
                    refine wpAnyL_take 6 46 (.pointer (some ⟨g, oo, none⟩)) [7, 10] rfl rfl (by kernel_rfl) (by kernel_rfl) (by kernel_rfl) (by kernel_rfl) (by kernel_rfl) (fun _ _ _ h => h) (by rfl) (fun _ _ => by go_simp) hS ?_
                    simp only [Act.put, List.setIfInBounds_toArray, List.set_cons_zero, List.set_cons_succ]
                    refine wpAnyL_take 7 47 (.string xk) [10] rfl rfl (by kernel_rfl) (by kernel_rfl) (by kernel_rfl) (by kernel_rfl) (by kernel_rfl) (fun _ _ _ h => h) (by rfl) (fun G hG => by obtain ⟨e0, e1⟩ := unhide HCL G hG; go_simp) hS ?_
                    simp only [Act.put, List.setIfInBounds_toArray, List.set_cons_zero, List.set_cons_succ]
                    refine wpAnyL_take 8 48 (.pointer (some ⟨N, 0, none⟩)) [9, 10] rfl rfl (by kernel_rfl) (by kernel_rfl) (by kernel_rfl) (by kernel_rfl) (by kernel_rfl) (fun _ _ _ h => h) (by rfl) (fun _ _ => by go_simp) hS ?_
                    simp only [Act.put, List.setIfInBounds_toArray, List.set_cons_zero, List.set_cons_succ]
                    refine wpAnyL_take 9 49 (.string ek) [10] rfl rfl (by kernel_rfl) (by kernel_rfl) (by kernel_rfl) (by kernel_rfl) (by kernel_rfl) (fun _ _ _ h => h) (by rfl) (fun G hG => by obtain ⟨e0, e1⟩ := unhide HBX G hG; go_simp) hS ?_
                    simp only [Act.put, List.setIfInBounds_toArray, List.set_cons_zero, List.set_cons_succ]
                    refine wpAnyL_take 10 50 (.bool true) [] rfl rfl (by kernel_rfl) (by kernel_rfl) (by kernel_rfl) (by kernel_rfl) (by kernel_rfl) (fun _ _ _ h => h) (by rfl) (fun _ _ => by go_simp) hS ?_
                    simp only [Act.put, List.setIfInBounds_toArray, List.set_cons_zero, List.set_cons_succ]
                    refine wpAnyL_one (i := 11) (by kernel_rfl) rfl (by rfl) fun K hK => ?_
                    refine wp_val (.bool true) (by go_simp) (some 51) (by rfl) ?_
                    refine hK _ _ (fun _ => hS) ?_
                    clear hK K
                    simp only [Act.put, List.setIfInBounds_toArray, List.set_cons_zero, List.set_cons_succ]
                    refine wpAnyL_done (by kernel_rfl) ?_ _
                    have HIY1 := hide hS
                    clear hS
                    obtain ⟨c1Y1, c2Y1⟩ := unhide HCL Y1 (unhide HIY1)
                    obtain ⟨b1Y1, b2Y1⟩ := unhide HBX Y1 (unhide HIY1)
                    have HO5' : Hid (RE.Own (Y1.alloc (.cells #[.string ek, .string es] 43)) W1.heap.size (acc) xo cc) := (unhide HOY1).below ((Below.refl _ _).alloc (Nat.le_refl _) _)
                    have HA5' : Hid (RE.At (Y1.alloc (.cells #[.string ek, .string es] 43)) [(ek, es)] (some ⟨Y1.heap.size, 0, none⟩) 1) := RE.one Y1 (ek, es) _
                    have HZ5' : Hid (W1.heap.size ≤ (Y1.alloc (.cells #[.string ek, .string es] 43)).heap.size) := Nat.le_trans (unhide HIY1).size (szNew Y1 _)
                    go_wp2_with (first
                      | (at_builtin; (with_reducible refine wpList_putE (by rfl) (.tmp 52) (.tmp 54) (by rfl) (some 55) (by rfl) W1.heap.size (acc) [(ek, es)] m 1 (unhide HML) rfl xo (some ⟨Y1.heap.size, 0, none⟩) cc 1 (by with_unfolding_all rfl) (by with_unfolding_all rfl) (unhide HO5') (unhide HA5') (unhide HLE) (unhide HZ5') ?_); intro x5 n5 c5 V5 HP5; simp only [Act.put, List.setIfInBounds_toArray, List.set_cons_zero, List.set_cons_succ]; have HI5 : Hid (Below W1.heap.size W1 V5) := ((unhide HIY1).alloc (unhide HIY1).size _).trans (unhide HP5).below; have HML5 : Hid (n5 = (acc ++ [(ek, es)]).length) := (unhide HP5).len; have HOO5 := hide (unhide HP5).own)
                      | fail)
                    refine wp_region_last (fun G => Below W1.heap.size W1 G) 7 hmix (belowDrew (unhide HI5)) fun hS => ?_
                    have HOY2 : Hid (RE.Own V5.drew W1.heap.size (acc ++ [(ek, es)]) x5 c5) := (unhide HOO5).below (belowDrew (Below.refl _ _))
                    generalize V5.drew = Y2 at hS HOY2 ⊢
                    refine wpAnyL_take 0 56 (.slice (some ⟨g, o, none⟩) n c) [2, 3, 4] rfl rfl (by kernel_rfl) (by kernel_rfl) (by kernel_rfl) (by kernel_rfl) (by kernel_rfl) (fun _ _ _ h => h) (by rfl) (fun _ _ => by go_simp) hS ?_
                    simp only [Act.put, List.setIfInBounds_toArray, List.set_cons_zero, List.set_cons_succ]
                    refine wpAnyL_take 1 57 (.int .i64 (i : Int)) [2, 3, 4] rfl rfl (by kernel_rfl) (by kernel_rfl) (by kernel_rfl) (by kernel_rfl) (by kernel_rfl) (fun _ _ _ h => h) (by rfl) (fun _ _ => by go_simp) hS ?_
                    simp only [Act.put, List.setIfInBounds_toArray, List.set_cons_zero, List.set_cons_succ]
                    refine wpAnyL_take 2 58 (.pointer (some ⟨g, oo, none⟩)) [3, 4] rfl rfl (by kernel_rfl) (by kernel_rfl) (by kernel_rfl) (by kernel_rfl) (by kernel_rfl) (fun _ _ _ h => h) (by rfl) (fun _ _ => by go_simp) hS ?_
                    simp only [Act.put, List.setIfInBounds_toArray, List.set_cons_zero, List.set_cons_succ]
                    refine wpAnyL_take 3 59 (.pointer (some ⟨g, oo, none⟩)) [4] rfl rfl (by kernel_rfl) (by kernel_rfl) (by kernel_rfl) (by kernel_rfl) (by kernel_rfl) (fun _ _ _ h => h) (by rfl) (fun _ _ => by go_simp) hS ?_
                    simp only [Act.put, List.setIfInBounds_toArray, List.set_cons_zero, List.set_cons_succ]
                    refine wpAnyL_take 4 60 (.string xk) [] rfl rfl (by kernel_rfl) (by kernel_rfl) (by kernel_rfl) (by kernel_rfl) (by kernel_rfl) (fun _ _ _ h => h) (by rfl) (fun G hG => by obtain ⟨e0, e1⟩ := unhide HCL G hG; go_simp) hS ?_
                    simp only [Act.put, List.setIfInBounds_toArray, List.set_cons_zero, List.set_cons_succ]
                    refine wpAnyL_take 5 61 (.pointer (some ⟨N, 0, none⟩)) [6] rfl rfl (by kernel_rfl) (by kernel_rfl) (by kernel_rfl) (by kernel_rfl) (by kernel_rfl) (fun _ _ _ h => h) (by rfl) (fun _ _ => by go_simp) hS ?_
                    simp only [Act.put, List.setIfInBounds_toArray, List.set_cons_zero, List.set_cons_succ]
                    refine wpAnyL_take 6 62 (.string ek) [] rfl rfl (by kernel_rfl) (by kernel_rfl) (by kernel_rfl) (by kernel_rfl) (by kernel_rfl) (fun _ _ _ h => h) (by rfl) (fun G hG => by obtain ⟨e0, e1⟩ := unhide HBX G hG; go_simp) hS ?_
                    simp only [Act.put, List.setIfInBounds_toArray, List.set_cons_zero, List.set_cons_succ]
                    refine wpAnyL_one (i := 7) (by kernel_rfl) rfl (by rfl) fun K hK => ?_
                    refine wp_val (.bool false) (by go_simp) (some 63) (by rfl) ?_
                    refine hK _ _ (fun _ => hS) ?_
                    clear hK K
                    simp only [Act.put, List.setIfInBounds_toArray, List.set_cons_zero, List.set_cons_succ]
                    refine wpAnyL_done (by kernel_rfl) ?_ _
                    have HIY2 := hide hS
                    clear hS
                    obtain ⟨c1Y2, c2Y2⟩ := unhide HCL Y2 (unhide HIY2)
                    obtain ⟨b1Y2, b2Y2⟩ := unhide HBX Y2 (unhide HIY2)
                    go_wp2_with fail
                    go_roundw
                    case rel => exact ⟨i + 1, n5, c5, x5, true, acc ++ [(ek, es)], by omega, by go_num, rfl, rfl, unhide HN1, unhide HML5, unhide HOY2, unhide HIY2⟩
                    case measure => simp [intOf]; omega
                  · have HN1 := hide ((unhide HPI).b hil h1 h2 (unhide HPR))
                    unfold lt at h1
                    generalize l[i] = x at *
                    obtain ⟨xk, xs⟩ := x
                    have HCL : Hid (∀ G : World, Below W1.heap.size W1 G → G.cell? ⟨g, o + i * 2, none⟩ = some (.string xk) ∧ G.cell? ⟨g, o + i * 2 + 1, none⟩ = some (.string xs)) := HCL
                    generalize o + i * 2 = oo at *
                    have h1 : Op.bytesLess xk.toList ek.toList = false := h1
                    have hq : (xk.toList == ek.toList) = false := by rw [ba_beq]; exact decide_eq_false h2
                    clear h2
                    have HLY := hide (unhide HLY (xk, xs))
                    go_wp2_with fail
                    refine wp_region_last (fun G => Below W1.heap.size W1 G) 11 hmix (belowDrew (unhide HI)) fun hS => ?_
                    have HOY1 : Hid (RE.Own wr.drew W1.heap.size (acc) xo cc) := (unhide HO).below (belowDrew (Below.refl _ _))
                    generalize wr.drew = Y1 at hS HOY1 ⊢
                    refine wpAnyL_take 0 40 (.bool false) [1, 2] rfl rfl (by kernel_rfl) (by kernel_rfl) (by kernel_rfl) (by kernel_rfl) (by kernel_rfl) (fun _ _ _ h => h) (by rfl) (fun _ _ => by go_simp) hS ?_
                    simp only [Act.put, List.setIfInBounds_toArray, List.set_cons_zero, List.set_cons_succ]
                    refine wpAnyL_take 1 41 (.bool true) [2] rfl rfl (by kernel_rfl) (by kernel_rfl) (by kernel_rfl) (by kernel_rfl) (by kernel_rfl) (fun _ _ _ h => h) (by rfl) (fun _ _ => by go_simp) hS ?_
                    simp only [Act.put, List.setIfInBounds_toArray, List.set_cons_zero, List.set_cons_succ]
                    refine wpAnyL_take 2 42 (.bool true) [] rfl rfl (by kernel_rfl) (by kernel_rfl) (by kernel_rfl) (by kernel_rfl) (by kernel_rfl) (fun _ _ _ h => h) (by rfl) (fun _ _ => by go_simp) hS ?_
                    simp only [Act.put, List.setIfInBounds_toArray, List.set_cons_zero, List.set_cons_succ]
                    refine wpAnyL_take 3 43 (.slice (some ⟨g, o, none⟩) n c) [5, 6, 7, 10] rfl rfl (by kernel_rfl) (by kernel_rfl) (by kernel_rfl) (by kernel_rfl) (by kernel_rfl) (fun _ _ _ h => h) (by rfl) (fun _ _ => by go_simp) hS ?_
                    simp only [Act.put, List.setIfInBounds_toArray, List.set_cons_zero, List.set_cons_succ]
                    refine wpAnyL_take 4 44 (.int .i64 (i : Int)) [5, 6, 7, 10] rfl rfl (by kernel_rfl) (by kernel_rfl) (by kernel_rfl) (by kernel_rfl) (by kernel_rfl) (fun _ _ _ h => h) (by rfl) (fun _ _ => by go_simp) hS ?_
                    simp only [Act.put, List.setIfInBounds_toArray, List.set_cons_zero, List.set_cons_succ]
                    refine wpAnyL_take 5 45 (.pointer (some ⟨g, oo, none⟩)) [6, 7, 10] rfl rfl (by kernel_rfl) (by kernel_rfl) (by kernel_rfl) (by kernel_rfl) (by kernel_rfl) (fun _ _ _ h => h) (by rfl) (fun _ _ => by go_simp) hS ?_
                    simp only [Act.put, List.setIfInBounds_toArray, List.set_cons_zero, List.set_cons_succ]
                    refine wpAnyL_take 6 46 (.pointer (some ⟨g, oo, none⟩)) [7, 10] rfl rfl (by kernel_rfl) (by kernel_rfl) (by kernel_rfl) (by kernel_rfl) (by kernel_rfl) (fun _ _ _ h => h) (by rfl) (fun _ _ => by go_simp) hS ?_
                    simp only [Act.put, List.setIfInBounds_toArray, List.set_cons_zero, List.set_cons_succ]
                    refine wpAnyL_take 7 47 (.string xk) [10] rfl rfl (by kernel_rfl) (by kernel_rfl) (by kernel_rfl) (by kernel_rfl) (by kernel_rfl) (fun _ _ _ h => h) (by rfl) (fun G hG => by obtain ⟨e0, e1⟩ := unhide HCL G hG; go_simp) hS ?_
                    simp only [Act.put, List.setIfInBounds_toArray, List.set_cons_zero, List.set_cons_succ]
                    refine wpAnyL_take 8 48 (.pointer (some ⟨N, 0, none⟩)) [9, 10] rfl rfl (by kernel_rfl) (by kernel_rfl) (by kernel_rfl) (by kernel_rfl) (by kernel_rfl) (fun _ _ _ h => h) (by rfl) (fun _ _ => by go_simp) hS ?_
                    simp only [Act.put, List.setIfInBounds_toArray, List.set_cons_zero, List.set_cons_succ]
                    refine wpAnyL_take 9 49 (.string ek) [10] rfl rfl (by kernel_rfl) (by kernel_rfl) (by kernel_rfl) (by kernel_rfl) (by kernel_rfl) (fun _ _ _ h => h) (by rfl) (fun G hG => by obtain ⟨e0, e1⟩ := unhide HBX G hG; go_simp) hS ?_
                    simp only [Act.put, List.setIfInBounds_toArray, List.set_cons_zero, List.set_cons_succ]
                    refine wpAnyL_take 10 50 (.bool true) [] rfl rfl (by kernel_rfl) (by kernel_rfl) (by kernel_rfl) (by kernel_rfl) (by kernel_rfl) (fun _ _ _ h => h) (by rfl) (fun _ _ => by go_simp) hS ?_
                    simp only [Act.put, List.setIfInBounds_toArray, List.set_cons_zero, List.set_cons_succ]
                    refine wpAnyL_one (i := 11) (by kernel_rfl) rfl (by rfl) fun K hK => ?_
                    refine wp_val (.bool true) (by go_simp) (some 51) (by rfl) ?_
                    refine hK _ _ (fun _ => hS) ?_
                    clear hK K
                    simp only [Act.put, List.setIfInBounds_toArray, List.set_cons_zero, List.set_cons_succ]
                    refine wpAnyL_done (by kernel_rfl) ?_ _
                    have HIY1 := hide hS
                    clear hS
                    obtain ⟨c1Y1, c2Y1⟩ := unhide HCL Y1 (unhide HIY1)
                    obtain ⟨b1Y1, b2Y1⟩ := unhide HBX Y1 (unhide HIY1)
                    have HO5' : Hid (RE.Own (Y1.alloc (.cells #[.string ek, .string es] 43)) W1.heap.size (acc) xo cc) := (unhide HOY1).below ((Below.refl _ _).alloc (Nat.le_refl _) _)
                    have HA5' : Hid (RE.At (Y1.alloc (.cells #[.string ek, .string es] 43)) [(ek, es)] (some ⟨Y1.heap.size, 0, none⟩) 1) := RE.one Y1 (ek, es) _
                    have HZ5' : Hid (W1.heap.size ≤ (Y1.alloc (.cells #[.string ek, .string es] 43)).heap.size) := Nat.le_trans (unhide HIY1).size (szNew Y1 _)
                    go_wp2_with (first
                      | (at_builtin; (with_reducible refine wpList_putE (by rfl) (.tmp 52) (.tmp 54) (by rfl) (some 55) (by rfl) W1.heap.size (acc) [(ek, es)] m 1 (unhide HML) rfl xo (some ⟨Y1.heap.size, 0, none⟩) cc 1 (by with_unfolding_all rfl) (by with_unfolding_all rfl) (unhide HO5') (unhide HA5') (unhide HLE) (unhide HZ5') ?_); intro x5 n5 c5 V5 HP5; simp only [Act.put, List.setIfInBounds_toArray, List.set_cons_zero, List.set_cons_succ]; have HI5 : Hid (Below W1.heap.size W1 V5) := ((unhide HIY1).alloc (unhide HIY1).size _).trans (unhide HP5).below; have HML5 : Hid (n5 = (acc ++ [(ek, es)]).length) := (unhide HP5).len; have HOO5 := hide (unhide HP5).own)
                      | fail)
                    refine wp_region_last (fun G => Below W1.heap.size W1 G) 7 hmix (belowDrew (unhide HI5)) fun hS => ?_
                    have HOY2 : Hid (RE.Own V5.drew W1.heap.size (acc ++ [(ek, es)]) x5 c5) := (unhide HOO5).below (belowDrew (Below.refl _ _))
                    generalize V5.drew = Y2 at hS HOY2 ⊢
                    refine wpAnyL_take 0 56 (.slice (some ⟨g, o, none⟩) n c) [2, 3, 4] rfl rfl (by kernel_rfl) (by kernel_rfl) (by kernel_rfl) (by kernel_rfl) (by kernel_rfl) (fun _ _ _ h => h) (by rfl) (fun _ _ => by go_simp) hS ?_
                    simp only [Act.put, List.setIfInBounds_toArray, List.set_cons_zero, List.set_cons_succ]
                    refine wpAnyL_take 1 57 (.int .i64 (i : Int)) [2, 3, 4] rfl rfl (by kernel_rfl) (by kernel_rfl) (by kernel_rfl) (by kernel_rfl) (by kernel_rfl) (fun _ _ _ h => h) (by rfl) (fun _ _ => by go_simp) hS ?_
                    simp only [Act.put, List.setIfInBounds_toArray, List.set_cons_zero, List.set_cons_succ]
                    refine wpAnyL_take 2 58 (.pointer (some ⟨g, oo, none⟩)) [3, 4] rfl rfl (by kernel_rfl) (by kernel_rfl) (by kernel_rfl) (by kernel_rfl) (by kernel_rfl) (fun _ _ _ h => h) (by rfl) (fun _ _ => by go_simp) hS ?_
                    simp only [Act.put, List.setIfInBounds_toArray, List.set_cons_zero, List.set_cons_succ]
                    refine wpAnyL_take 3 59 (.pointer (some ⟨g, oo, none⟩)) [4] rfl rfl (by kernel_rfl) (by kernel_rfl) (by kernel_rfl) (by kernel_rfl) (by kernel_rfl) (fun _ _ _ h => h) (by rfl) (fun _ _ => by go_simp) hS ?_
                    simp only [Act.put, List.setIfInBounds_toArray, List.set_cons_zero, List.set_cons_succ]
                    refine wpAnyL_take 4 60 (.string xk) [] rfl rfl (by kernel_rfl) (by kernel_rfl) (by kernel_rfl) (by kernel_rfl) (by kernel_rfl) (fun _ _ _ h => h) (by rfl) (fun G hG => by obtain ⟨e0, e1⟩ := unhide HCL G hG; go_simp) hS ?_
                    simp only [Act.put, List.setIfInBounds_toArray, List.set_cons_zero, List.set_cons_succ]
                    refine wpAnyL_take 5 61 (.pointer (some ⟨N, 0, none⟩)) [6] rfl rfl (by kernel_rfl) (by kernel_rfl) (by kernel_rfl) (by kernel_rfl) (by kernel_rfl) (fun _ _ _ h => h) (by rfl) (fun _ _ => by go_simp) hS ?_
                    simp only [Act.put, List.setIfInBounds_toArray, List.set_cons_zero, List.set_cons_succ]
                    refine wpAnyL_take 6 62 (.string ek) [] rfl rfl (by kernel_rfl) (by kernel_rfl) (by kernel_rfl) (by kernel_rfl) (by kernel_rfl) (fun _ _ _ h => h) (by rfl) (fun G hG => by obtain ⟨e0, e1⟩ := unhide HBX G hG; go_simp) hS ?_
                    simp only [Act.put, List.setIfInBounds_toArray, List.set_cons_zero, List.set_cons_succ]
                    refine wpAnyL_one (i := 7) (by kernel_rfl) rfl (by rfl) fun K hK => ?_
                    refine wp_val (.bool true) (by go_simp) (some 63) (by rfl) ?_
                    refine hK _ _ (fun _ => hS) ?_
                    clear hK K
                    simp only [Act.put, List.setIfInBounds_toArray, List.set_cons_zero, List.set_cons_succ]
                    refine wpAnyL_done (by kernel_rfl) ?_ _
                    have HIY2 := hide hS
                    clear hS
                    obtain ⟨c1Y2, c2Y2⟩ := unhide HCL Y2 (unhide HIY2)
                    obtain ⟨b1Y2, b2Y2⟩ := unhide HBX Y2 (unhide HIY2)
                    have HO6' : Hid (RE.Own (Y2.alloc (.cells #[.string xk, .string xs] 43)) W1.heap.size (acc ++ [(ek, es)]) x5 c5) := (unhide HOY2).below ((Below.refl _ _).alloc (Nat.le_refl _) _)
                    have HA6' : Hid (RE.At (Y2.alloc (.cells #[.string xk, .string xs] 43)) [(xk, xs)] (some ⟨Y2.heap.size, 0, none⟩) 1) := RE.one Y2 (xk, xs) _
                    have HZ6' : Hid (W1.heap.size ≤ (Y2.alloc (.cells #[.string xk, .string xs] 43)).heap.size) := Nat.le_trans (unhide HIY2).size (szNew Y2 _)
                    go_wp2_with (first
                      | (at_builtin; (with_reducible refine wpList_putE (by rfl) (.tmp 64) (.tmp 69) (by rfl) (some 70) (by rfl) W1.heap.size (acc ++ [(ek, es)]) [(xk, xs)] n5 1 (unhide HML5) rfl x5 (some ⟨Y2.heap.size, 0, none⟩) c5 1 (by with_unfolding_all rfl) (by with_unfolding_all rfl) (unhide HO6') (unhide HA6') (unhide HLY) (unhide HZ6') ?_); intro x6 n6 c6 V6 HP6; simp only [Act.put, List.setIfInBounds_toArray, List.set_cons_zero, List.set_cons_succ]; have HI6 : Hid (Below W1.heap.size W1 V6) := ((unhide HIY2).alloc (unhide HIY2).size _).trans (unhide HP6).below; have HML6 : Hid (n6 = (acc ++ [(ek, es)] ++ [(xk, xs)]).length) := (unhide HP6).len; have HOO6 := hide (unhide HP6).own)
                      | fail)
                    go_roundw
                    case rel => exact ⟨i + 1, n6, c6, x6, true, (acc ++ [(ek, es)]) ++ [(xk, xs)], by omega, by go_num, rfl, rfl, unhide HN1, unhide HML6, unhide HOO6, unhide HI6⟩
                    case measure => simp [intOf]; omega
              · have HN1 := hide ((unhide HPI).d hil).1
                have h2 : l[i].1 ≠ ek := ((unhide HPI).d hil).2
                generalize l[i] = x at *
                obtain ⟨xk, xs⟩ := x
                have HCL : Hid (∀ G : World, Below W1.heap.size W1 G → G.cell? ⟨g, o + i * 2, none⟩ = some (.string xk) ∧ G.cell? ⟨g, o + i * 2 + 1, none⟩ = some (.string xs)) := HCL
                generalize o + i * 2 = oo at *
                have hq : (xk.toList == ek.toList) = false := by rw [ba_beq]; exact decide_eq_false h2
                clear h2
                have HLX := hide (unhide HLX (xk, xs))
                go_wp2_with fail
                refine wp_region_last (fun G => Below W1.heap.size W1 G) 11 hmix (belowDrew (unhide HI)) fun hS => ?_
                have HOY1 : Hid (RE.Own wr.drew W1.heap.size (acc) xo cc) := (unhide HO).below (belowDrew (Below.refl _ _))
                generalize wr.drew = Y1 at hS HOY1 ⊢
                refine wpAnyL_take 0 40 (.bool true) [1, 2] rfl rfl (by kernel_rfl) (by kernel_rfl) (by kernel_rfl) (by kernel_rfl) (by kernel_rfl) (fun _ _ _ h => h) (by rfl) (fun _ _ => by go_simp) hS ?_
                simp only [Act.put, List.setIfInBounds_toArray, List.set_cons_zero, List.set_cons_succ]
                refine wpAnyL_take 1 41 (.bool false) [2] rfl rfl (by kernel_rfl) (by kernel_rfl) (by kernel_rfl) (by kernel_rfl) (by kernel_rfl) (fun _ _ _ h => h) (by rfl) (fun _ _ => by go_simp) hS ?_
                simp only [Act.put, List.setIfInBounds_toArray, List.set_cons_zero, List.set_cons_succ]
                refine wpAnyL_take 2 42 (.bool false) [] rfl rfl (by kernel_rfl) (by kernel_rfl) (by kernel_rfl) (by kernel_rfl) (by kernel_rfl) (fun _ _ _ h => h) (by rfl) (fun _ _ => by go_simp) hS ?_
                simp only [Act.put, List.setIfInBounds_toArray, List.set_cons_zero, List.set_cons_succ]
                refine wpAnyL_skip 3 43 [5, 6, 7, 10] rfl rfl (by kernel_rfl) (by kernel_rfl) (by kernel_rfl) (by kernel_rfl) (by kernel_rfl) (fun _ _ _ h => h) (by rfl) hS ?_
                simp only [Act.put, List.setIfInBounds_toArray, List.set_cons_zero, List.set_cons_succ]
                refine wpAnyL_skip 4 44 [5, 6, 7, 10] rfl rfl (by kernel_rfl) (by kernel_rfl) (by kernel_rfl) (by kernel_rfl) (by kernel_rfl) (fun _ _ _ h => h) (by rfl) hS ?_
                simp only [Act.put, List.setIfInBounds_toArray, List.set_cons_zero, List.set_cons_succ]
                refine wpAnyL_skip 5 45 [6, 7, 10] rfl rfl (by kernel_rfl) (by kernel_rfl) (by kernel_rfl) (by kernel_rfl) (by kernel_rfl) (fun _ _ _ h => h) (by rfl) hS ?_
                simp only [Act.put, List.setIfInBounds_toArray, List.set_cons_zero, List.set_cons_succ]
                refine wpAnyL_skip 6 46 [7, 10] rfl rfl (by kernel_rfl) (by kernel_rfl) (by kernel_rfl) (by kernel_rfl) (by kernel_rfl) (fun _ _ _ h => h) (by rfl) hS ?_
                simp only [Act.put, List.setIfInBounds_toArray, List.set_cons_zero, List.set_cons_succ]
                refine wpAnyL_skip 7 47 [10] rfl rfl (by kernel_rfl) (by kernel_rfl) (by kernel_rfl) (by kernel_rfl) (by kernel_rfl) (fun _ _ _ h => h) (by rfl) hS ?_
                simp only [Act.put, List.setIfInBounds_toArray, List.set_cons_zero, List.set_cons_succ]
                refine wpAnyL_skip 8 48 [9, 10] rfl rfl (by kernel_rfl) (by kernel_rfl) (by kernel_rfl) (by kernel_rfl) (by kernel_rfl) (fun _ _ _ h => h) (by rfl) hS ?_
                simp only [Act.put, List.setIfInBounds_toArray, List.set_cons_zero, List.set_cons_succ]
                refine wpAnyL_skip 9 49 [10] rfl rfl (by kernel_rfl) (by kernel_rfl) (by kernel_rfl) (by kernel_rfl) (by kernel_rfl) (fun _ _ _ h => h) (by rfl) hS ?_
                simp only [Act.put, List.setIfInBounds_toArray, List.set_cons_zero, List.set_cons_succ]
                refine wpAnyL_skip 10 50 [] rfl rfl (by kernel_rfl) (by kernel_rfl) (by kernel_rfl) (by kernel_rfl) (by kernel_rfl) (fun _ _ _ h => h) (by rfl) hS ?_
                simp only [Act.put, List.setIfInBounds_toArray, List.set_cons_zero, List.set_cons_succ]
                refine wpAnyL_one (i := 11) (by kernel_rfl) rfl (by rfl) fun K hK => ?_
                refine wp_val (.bool false) (by go_simp) (some 51) (by rfl) ?_
                refine hK _ _ (fun _ => hS) ?_
                clear hK K
                simp only [Act.put, List.setIfInBounds_toArray, List.set_cons_zero, List.set_cons_succ]
                refine wpAnyL_done (by kernel_rfl) ?_ _
                have HIY1 := hide hS
                clear hS
                obtain ⟨c1Y1, c2Y1⟩ := unhide HCL Y1 (unhide HIY1)
                obtain ⟨b1Y1, b2Y1⟩ := unhide HBX Y1 (unhide HIY1)
                go_wp2_with fail
                refine wp_region_last (fun G => Below W1.heap.size W1 G) 7 hmix (belowDrew (unhide HIY1)) fun hS => ?_
                have HOY2 : Hid (RE.Own Y1.drew W1.heap.size (acc) xo cc) := (unhide HOY1).below (belowDrew (Below.refl _ _))
                generalize Y1.drew = Y2 at hS HOY2 ⊢
                refine wpAnyL_take 0 56 (.slice (some ⟨g, o, none⟩) n c) [2, 3, 4] rfl rfl (by kernel_rfl) (by kernel_rfl) (by kernel_rfl) (by kernel_rfl) (by kernel_rfl) (fun _ _ _ h => h) (by rfl) (fun _ _ => by go_simp) hS ?_
                simp only [Act.put, List.setIfInBounds_toArray, List.set_cons_zero, List.set_cons_succ]
                refine wpAnyL_take 1 57 (.int .i64 (i : Int)) [2, 3, 4] rfl rfl (by kernel_rfl) (by kernel_rfl) (by kernel_rfl) (by kernel_rfl) (by kernel_rfl) (fun _ _ _ h => h) (by rfl) (fun _ _ => by go_simp) hS ?_
                simp only [Act.put, List.setIfInBounds_toArray, List.set_cons_zero, List.set_cons_succ]
                refine wpAnyL_take 2 58 (.pointer (some ⟨g, oo, none⟩)) [3, 4] rfl rfl (by kernel_rfl) (by kernel_rfl) (by kernel_rfl) (by kernel_rfl) (by kernel_rfl) (fun _ _ _ h => h) (by rfl) (fun _ _ => by go_simp) hS ?_
                simp only [Act.put, List.setIfInBounds_toArray, List.set_cons_zero, List.set_cons_succ]
                refine wpAnyL_take 3 59 (.pointer (some ⟨g, oo, none⟩)) [4] rfl rfl (by kernel_rfl) (by kernel_rfl) (by kernel_rfl) (by kernel_rfl) (by kernel_rfl) (fun _ _ _ h => h) (by rfl) (fun _ _ => by go_simp) hS ?_
                simp only [Act.put, List.setIfInBounds_toArray, List.set_cons_zero, List.set_cons_succ]
                refine wpAnyL_take 4 60 (.string xk) [] rfl rfl (by kernel_rfl) (by kernel_rfl) (by kernel_rfl) (by kernel_rfl) (by kernel_rfl) (fun _ _ _ h => h) (by rfl) (fun G hG => by obtain ⟨e0, e1⟩ := unhide HCL G hG; go_simp) hS ?_
                simp only [Act.put, List.setIfInBounds_toArray, List.set_cons_zero, List.set_cons_succ]
                refine wpAnyL_take 5 61 (.pointer (some ⟨N, 0, none⟩)) [6] rfl rfl (by kernel_rfl) (by kernel_rfl) (by kernel_rfl) (by kernel_rfl) (by kernel_rfl) (fun _ _ _ h => h) (by rfl) (fun _ _ => by go_simp) hS ?_
                simp only [Act.put, List.setIfInBounds_toArray, List.set_cons_zero, List.set_cons_succ]
                refine wpAnyL_take 6 62 (.string ek) [] rfl rfl (by kernel_rfl) (by kernel_rfl) (by kernel_rfl) (by kernel_rfl) (by kernel_rfl) (fun _ _ _ h => h) (by rfl) (fun G hG => by obtain ⟨e0, e1⟩ := unhide HBX G hG; go_simp) hS ?_
                simp only [Act.put, List.setIfInBounds_toArray, List.set_cons_zero, List.set_cons_succ]
                refine wpAnyL_one (i := 7) (by kernel_rfl) rfl (by rfl) fun K hK => ?_
                refine wp_val (.bool true) (by go_simp) (some 63) (by rfl) ?_
                refine hK _ _ (fun _ => hS) ?_
                clear hK K
                simp only [Act.put, List.setIfInBounds_toArray, List.set_cons_zero, List.set_cons_succ]
                refine wpAnyL_done (by kernel_rfl) ?_ _
                have HIY2 := hide hS
                clear hS
                obtain ⟨c1Y2, c2Y2⟩ := unhide HCL Y2 (unhide HIY2)
                obtain ⟨b1Y2, b2Y2⟩ := unhide HBX Y2 (unhide HIY2)
                have HO4' : Hid (RE.Own (Y2.alloc (.cells #[.string xk, .string xs] 43)) W1.heap.size (acc) xo cc) := (unhide HOY2).below ((Below.refl _ _).alloc (Nat.le_refl _) _)
                have HA4' : Hid (RE.At (Y2.alloc (.cells #[.string xk, .string xs] 43)) [(xk, xs)] (some ⟨Y2.heap.size, 0, none⟩) 1) := RE.one Y2 (xk, xs) _
                have HZ4' : Hid (W1.heap.size ≤ (Y2.alloc (.cells #[.string xk, .string xs] 43)).heap.size) := Nat.le_trans (unhide HIY2).size (szNew Y2 _)
                go_wp2_with (first
                  | (at_builtin; (with_reducible refine wpList_putE (by rfl) (.tmp 64) (.tmp 69) (by rfl) (some 70) (by rfl) W1.heap.size (acc) [(xk, xs)] m 1 (unhide HML) rfl xo (some ⟨Y2.heap.size, 0, none⟩) cc 1 (by with_unfolding_all rfl) (by with_unfolding_all rfl) (unhide HO4') (unhide HA4') (unhide HLX) (unhide HZ4') ?_); intro x4 n4 c4 V4 HP4; simp only [Act.put, List.setIfInBounds_toArray, List.set_cons_zero, List.set_cons_succ]; have HI4 : Hid (Below W1.heap.size W1 V4) := ((unhide HIY2).alloc (unhide HIY2).size _).trans (unhide HP4).below; have HML4 : Hid (n4 = (acc ++ [(xk, xs)]).length) := (unhide HP4).len; have HOO4 := hide (unhide HP4).own)
                  | fail)
                go_roundw
                case rel => exact ⟨i + 1, n4, c4, x4, true, acc ++ [(xk, xs)], by omega, by go_num, rfl, rfl, unhide HN1, unhide HML4, unhide HOO4, unhide HI4⟩
                case measure => simp [intOf]; omega
            · obtain rfl : i = n := by omega
              have hki : ¬ (i : Int) < (i : Int) := by omega
              have HF := hide ((unhide HPI).fin (unhide HRN))
              cases pt
              · obtain ⟨b1, b2⟩ := unhide HBX wr (unhide HI)
                have HO7' : Hid (RE.Own (wr.alloc (.cells #[.string ek, .string es] 43)) W1.heap.size (acc) xo cc) := (unhide HO).below ((Below.refl _ _).alloc (Nat.le_refl _) _)
                have HA7' : Hid (RE.At (wr.alloc (.cells #[.string ek, .string es] 43)) [(ek, es)] (some ⟨wr.heap.size, 0, none⟩) 1) := RE.one wr (ek, es) _
                have HZ7' : Hid (W1.heap.size ≤ (wr.alloc (.cells #[.string ek, .string es] 43)).heap.size) := Nat.le_trans (unhide HI).size (szNew wr _)
                go_wp2_with (first
                  | (at_builtin; (with_reducible refine wpList_putE (by rfl) (.tmp 73) (.tmp 75) (by rfl) (some 76) (by rfl) W1.heap.size (acc) [(ek, es)] m 1 (unhide HML) rfl xo (some ⟨wr.heap.size, 0, none⟩) cc 1 (by with_unfolding_all rfl) (by with_unfolding_all rfl) (unhide HO7') (unhide HA7') (unhide HLE) (unhide HZ7') ?_); intro x7 n7 c7 V7 HP7; simp only [Act.put, List.setIfInBounds_toArray, List.set_cons_zero, List.set_cons_succ]; have HI7 : Hid (Below W1.heap.size W1 V7) := ((unhide HI).alloc (unhide HI).size _).trans (unhide HP7).below; have HML7 : Hid (n7 = (acc ++ [(ek, es)]).length) := (unhide HP7).len; have HOO7 := hide (unhide HP7).own)
                  | fail)
                go_ret2
                exact ⟨x7, n7, c7, rfl, by rw [← show acc ++ [(ek, es)] = _ from unhide HF]; exact unhide HML7, by rw [← show acc ++ [(ek, es)] = _ from unhide HF]; exact (unhide HOO7).down (unhide HWL), Below.step (unhide HU1) (unhide HI7)⟩
              · go_wp2
                go_ret2
                exact ⟨xo, m, cc, rfl, by rw [← show acc = _ from unhide HF]; exact unhide HML, by rw [← show acc = _ from unhide HF]; exact (unhide HO).down (unhide HWL), Below.step (unhide HU1) (unhide HI)⟩
        · rw [putV_ne hl0 h3] at hv
          cases hv
          obtain ⟨s0, hs0⟩ : ∃ s, s = l[0].2 := ⟨_, rfl⟩
          rw [← hs0] at HC0 h3
          have hb3 : ((es.size : Int) == (s0.size : Int)) = false := beq_false_of_ne h3
          clear hs0 h h1 h2 hnf hao hl0
          go_enter Try.func32, Try.ntmps32
          go_wp2_with (first
            | ((with_reducible refine wpList_box_en (by rfl) (.tmp 1) (by rfl) (some 3) (by rfl) N (unhide HN) ek es (by with_unfolding_all rfl) ?_); intro W1 HX1 HB1 HS1; simp only [Act.put, List.setIfInBounds_toArray, List.set_cons_zero, List.set_cons_succ]; have HU1 : Hid (Below u.heap.size u W1) := unhide HNU _ (unhide HB1); have HL1 : Hid (∀ G : World, Below W1.heap.size W1 G → Calls Try.prog 50 #[.slice ao n c] G fun e u' => e = .returned (.bool true) ∧ Below G.heap.size G u') := fun G hG => unhide HQ1 G (Below.step (unhide HU1) hG))
            | fail)
          clear HS1
          have hC0 : ∀ G : World, Below W1.heap.size W1 G → G.cell? ⟨g, o + 1, none⟩ = some (.string s0) := fun G hG => unhide HC0 G (Below.step (unhide HU1) hG)
          refine wp_region_last (fun G => Below W1.heap.size W1 G) 24 hmix (belowDrew (Below.refl _ _)) fun hS => ?_
          generalize W1.drew = X0 at hS ⊢
          refine wpAnyL_take 0 9 (.slice ao n c) [1, 3, 6, 9] rfl rfl (by kernel_rfl) (by kernel_rfl) (by kernel_rfl) (by kernel_rfl) (by kernel_rfl) (fun _ _ _ h => h) (by rfl) (fun _ _ => by go_simp) hS ?_
          simp only [Act.put, List.setIfInBounds_toArray, List.set_cons_zero, List.set_cons_succ]
          refine wpAnyL_one (i := 1) (by kernel_rfl) rfl (by rfl) fun K hK => ?_
          refine wp_call_fn 50 _ _ (by rfl) #[.slice ao n c] (by with_unfolding_all rfl) entQL (some 10) (by rfl) _ (asV (unhide HL1 X0 hS)) ?_
          rintro _ X1 ⟨rfl, hb⟩
          have HS1 : Hid (Below W1.heap.size W1 X1) := Below.step hS hb
          clear hb hS
          refine hK _ _ (fun _ => unhide HS1) ?_
          clear hK K
          simp only [Act.put, List.setIfInBounds_toArray, List.set_cons_zero, List.set_cons_succ]
          refine wpAnyL_take 2 11 (.bool false) [3, 6, 9] rfl rfl (by kernel_rfl) (by kernel_rfl) (by kernel_rfl) (by kernel_rfl) (by kernel_rfl) (fun _ _ _ h => h) (by rfl) (fun _ _ => by go_simp) (unhide HS1) ?_
          simp only [Act.put, List.setIfInBounds_toArray, List.set_cons_zero, List.set_cons_succ]
          refine wpAnyL_take 3 12 (.bool false) [6, 9] rfl rfl (by kernel_rfl) (by kernel_rfl) (by kernel_rfl) (by kernel_rfl) (by kernel_rfl) (fun _ _ _ h => h) (by rfl) (fun _ _ => by go_simp) (unhide HS1) ?_
          simp only [Act.put, List.setIfInBounds_toArray, List.set_cons_zero, List.set_cons_succ]
          refine wpAnyL_take 4 13 (.agg #[.string ek, .string es]) [5, 6, 9] rfl rfl (by kernel_rfl) (by kernel_rfl) (by kernel_rfl) (by kernel_rfl) (by kernel_rfl) (fun _ _ _ h => h) (by rfl) (fun G hG => by obtain ⟨e0, e1⟩ := box2 (box_below (unhide HX1) hG); go_simp) (unhide HS1) ?_
          simp only [Act.put, List.setIfInBounds_toArray, List.set_cons_zero, List.set_cons_succ]
          refine wpAnyL_one (i := 5) (by kernel_rfl) rfl (by rfl) fun K hK => ?_
          refine wp_buildTo (by rfl) (.slice (some ⟨X1.heap.size, 0, none⟩) 1 1) (X1.alloc (.cells #[.string ek, .string es] 43)) (by simp only [List.map_toArray, List.map_cons, List.map_nil]; exact bsE X1 ek es) (some 14) (by rfl) ?_
          have HS2 : Hid (Below W1.heap.size W1 (X1.alloc (.cells #[.string ek, .string es] 43))) := (unhide HS1).alloc (unhide HS1).size _
          have HE2 : Hid (El (X1.alloc (.cells #[.string ek, .string es] 43)) [(ek, es)] (some ⟨X1.heap.size, 0, none⟩) 1 1) := El.one X1 (ek, es) _
          refine hK _ _ (fun _ => unhide HS2) ?_
          clear hK K
          simp only [Act.put, List.setIfInBounds_toArray, List.set_cons_zero, List.set_cons_succ]
          generalize X1.alloc (.cells #[.string ek, .string es] 43) = X2 at HS2 HE2 ⊢
          clear HS1
          refine wpAnyL_one (i := 6) (by kernel_rfl) rfl (by rfl) fun K hK => ?_
          refine wp_call_fn 50 _ _ (by rfl) #[.slice (some ⟨X1.heap.size, 0, none⟩) 1 1] (by with_unfolding_all rfl) entQL (some 15) (by rfl) _ (asV (unhide HL2 X2 _ (unhide HE2))) ?_
          rintro _ X3 ⟨rfl, hb⟩
          have HS3 : Hid (Below W1.heap.size W1 X3) := Below.step (unhide HS2) hb
          clear hb HS2 HE2
          refine hK _ _ (fun _ => unhide HS3) ?_
          clear hK K
          simp only [Act.put, List.setIfInBounds_toArray, List.set_cons_zero, List.set_cons_succ]
          refine wpAnyL_take 7 16 (.bool false) [8, 9] rfl rfl (by kernel_rfl) (by kernel_rfl) (by kernel_rfl) (by kernel_rfl) (by kernel_rfl) (fun _ _ _ h => h) (by rfl) (fun _ _ => by go_simp) (unhide HS3) ?_
          simp only [Act.put, List.setIfInBounds_toArray, List.set_cons_zero, List.set_cons_succ]
          refine wpAnyL_take 8 17 (.bool false) [9] rfl rfl (by kernel_rfl) (by kernel_rfl) (by kernel_rfl) (by kernel_rfl) (by kernel_rfl) (fun _ _ _ h => h) (by rfl) (fun _ _ => by go_simp) (unhide HS3) ?_
          simp only [Act.put, List.setIfInBounds_toArray, List.set_cons_zero, List.set_cons_succ]
          refine wpAnyL_take 9 18 (.bool false) [] rfl rfl (by kernel_rfl) (by kernel_rfl) (by kernel_rfl) (by kernel_rfl) (by kernel_rfl) (fun _ _ _ h => h) (by rfl) (fun _ _ => by go_simp) (unhide HS3) ?_
          simp only [Act.put, List.setIfInBounds_toArray, List.set_cons_zero, List.set_cons_succ]
          refine wpAnyL_take 10 19 (.slice ao n c) [11, 12, 13, 23] rfl rfl (by kernel_rfl) (by kernel_rfl) (by kernel_rfl) (by kernel_rfl) (by kernel_rfl) (fun _ _ _ h => h) (by rfl) (fun _ _ => by go_simp) (unhide HS3) ?_
          simp only [Act.put, List.setIfInBounds_toArray, List.set_cons_zero, List.set_cons_succ]
          refine wpAnyL_take 11 20 (.int .i64 (n : Int)) [12, 13, 23] rfl rfl (by kernel_rfl) (by kernel_rfl) (by kernel_rfl) (by kernel_rfl) (by kernel_rfl) (fun _ _ _ h => h) (by rfl) (fun _ _ => by go_simp) (unhide HS3) ?_
          simp only [Act.put, List.setIfInBounds_toArray, List.set_cons_zero, List.set_cons_succ]
          refine wpAnyL_take 12 21 (.bool true) [13, 23] rfl rfl (by kernel_rfl) (by kernel_rfl) (by kernel_rfl) (by kernel_rfl) (by kernel_rfl) (fun _ _ _ h => h) (by rfl) (fun _ _ => by go_simp) (unhide HS3) ?_
          simp only [Act.put, List.setIfInBounds_toArray, List.set_cons_zero, List.set_cons_succ]
          refine wpAnyL_take 13 22 (.bool true) [23] rfl rfl (by kernel_rfl) (by kernel_rfl) (by kernel_rfl) (by kernel_rfl) (by kernel_rfl) (fun _ _ _ h => h) (by rfl) (fun _ _ => by go_simp) (unhide HS3) ?_
          simp only [Act.put, List.setIfInBounds_toArray, List.set_cons_zero, List.set_cons_succ]
          refine wpAnyL_take 14 23 (.pointer (some ⟨N, 1, none⟩)) [15, 16, 22, 23] rfl rfl (by kernel_rfl) (by kernel_rfl) (by kernel_rfl) (by kernel_rfl) (by kernel_rfl) (fun _ _ _ h => h) (by rfl) (fun _ _ => by go_simp) (unhide HS3) ?_
          simp only [Act.put, List.setIfInBounds_toArray, List.set_cons_zero, List.set_cons_succ]
          refine wpAnyL_take 15 24 (.string es) [16, 22, 23] rfl rfl (by kernel_rfl) (by kernel_rfl) (by kernel_rfl) (by kernel_rfl) (by kernel_rfl) (fun _ _ _ h => h) (by rfl) (fun G hG => by obtain ⟨e0, e1⟩ := box2 (box_below (unhide HX1) hG); go_simp) (unhide HS3) ?_
          simp only [Act.put, List.setIfInBounds_toArray, List.set_cons_zero, List.set_cons_succ]
          refine wpAnyL_take 16 25 (.int .i64 (es.size : Int)) [22, 23] rfl rfl (by kernel_rfl) (by kernel_rfl) (by kernel_rfl) (by kernel_rfl) (by kernel_rfl) (fun _ _ _ h => h) (by rfl) (fun _ _ => by go_simp) (unhide HS3) ?_
          simp only [Act.put, List.setIfInBounds_toArray, List.set_cons_zero, List.set_cons_succ]
          refine wpAnyL_take 17 26 (.slice ao n c) [18, 19, 20, 21, 22, 23] rfl rfl (by kernel_rfl) (by kernel_rfl) (by kernel_rfl) (by kernel_rfl) (by kernel_rfl) (fun _ _ _ h => h) (by rfl) (fun _ _ => by go_simp) (unhide HS3) ?_
          simp only [Act.put, List.setIfInBounds_toArray, List.set_cons_zero, List.set_cons_succ]
          refine wpAnyL_take 18 27 (.pointer (some ⟨g, o, none⟩)) [19, 20, 21, 22, 23] rfl rfl (by kernel_rfl) (by kernel_rfl) (by kernel_rfl) (by kernel_rfl) (by kernel_rfl) (fun _ _ _ h => h) (by rfl) (fun _ _ => by go_simp) (unhide HS3) ?_
          simp only [Act.put, List.setIfInBounds_toArray, List.set_cons_zero, List.set_cons_succ]
          refine wpAnyL_take 19 28 (.pointer (some ⟨g, o + 1, none⟩)) [20, 21, 22, 23] rfl rfl (by kernel_rfl) (by kernel_rfl) (by kernel_rfl) (by kernel_rfl) (by kernel_rfl) (fun _ _ _ h => h) (by rfl) (fun _ _ => by go_simp) (unhide HS3) ?_
          simp only [Act.put, List.setIfInBounds_toArray, List.set_cons_zero, List.set_cons_succ]
          refine wpAnyL_take 20 29 (.string s0) [21, 22, 23] rfl rfl (by kernel_rfl) (by kernel_rfl) (by kernel_rfl) (by kernel_rfl) (by kernel_rfl) (fun _ _ _ h => h) (by rfl) (fun G hG => by have e1 := hC0 G hG; go_simp) (unhide HS3) ?_
          simp only [Act.put, List.setIfInBounds_toArray, List.set_cons_zero, List.set_cons_succ]
          refine wpAnyL_take 21 30 (.int .i64 (s0.size : Int)) [22, 23] rfl rfl (by kernel_rfl) (by kernel_rfl) (by kernel_rfl) (by kernel_rfl) (by kernel_rfl) (fun _ _ _ h => h) (by rfl) (fun _ _ => by go_simp) (unhide HS3) ?_
          simp only [Act.put, List.setIfInBounds_toArray, List.set_cons_zero, List.set_cons_succ]
          refine wpAnyL_take 22 31 (.bool true) [23] rfl rfl (by kernel_rfl) (by kernel_rfl) (by kernel_rfl) (by kernel_rfl) (by kernel_rfl) (fun _ _ _ h => h) (by rfl) (fun _ _ => by go_simp) (unhide HS3) ?_
          simp only [Act.put, List.setIfInBounds_toArray, List.set_cons_zero, List.set_cons_succ]
          refine wpAnyL_take 23 32 (.bool true) [] rfl rfl (by kernel_rfl) (by kernel_rfl) (by kernel_rfl) (by kernel_rfl) (by kernel_rfl) (fun _ _ _ h => h) (by rfl) (fun _ _ => by go_simp) (unhide HS3) ?_
          simp only [Act.put, List.setIfInBounds_toArray, List.set_cons_zero, List.set_cons_succ]
          refine wpAnyL_one (i := 24) (by kernel_rfl) rfl (by rfl) fun K hK => ?_
          refine wp_val (.bool true) (by go_simp) (some 33) (by rfl) ?_
          refine hK _ _ (fun _ => unhide HS3) ?_
          clear hK K
          simp only [Act.put, List.setIfInBounds_toArray, List.set_cons_zero, List.set_cons_succ]
          refine wpAnyL_done (by kernel_rfl) ?_ _
          have HSE := HS3
          clear HS3
          go_wp2
          go_ret2
          exact ⟨none, 0, 0, rfl, rfl, Rec.Own.none _ _, Below.step (unhide HU1) (unhide HSE)⟩
      · have hpos : ¬ (0 : Int) < (n : Int) := by omega
        rw [putV_nil (List.eq_nil_of_length_eq_zero (by rw [← h.hn]; omega)) h2] at hv
        cases hv
        clear h h1 h2 hnf
        go_enter Try.func32, Try.ntmps32
        go_wp2_with (first
          | ((with_reducible refine wpList_box_en (by rfl) (.tmp 1) (by rfl) (some 3) (by rfl) N (unhide HN) ek es (by with_unfolding_all rfl) ?_); intro W1 HX1 HB1 HS1; simp only [Act.put, List.setIfInBounds_toArray, List.set_cons_zero, List.set_cons_succ]; have HU1 : Hid (Below u.heap.size u W1) := unhide HNU _ (unhide HB1); have HL1 : Hid (∀ G : World, Below W1.heap.size W1 G → Calls Try.prog 50 #[.slice ao n c] G fun e u' => e = .returned (.bool true) ∧ Below G.heap.size G u') := fun G hG => unhide HQ1 G (Below.step (unhide HU1) hG))
          | fail)
        clear HS1
        refine wp_region_last (fun G => Below W1.heap.size W1 G) 24 hmix (belowDrew (Below.refl _ _)) fun hS => ?_
        generalize W1.drew = X0 at hS ⊢
        refine wpAnyL_take 0 9 (.slice ao n c) [1, 3, 6, 9] rfl rfl (by kernel_rfl) (by kernel_rfl) (by kernel_rfl) (by kernel_rfl) (by kernel_rfl) (fun _ _ _ h => h) (by rfl) (fun _ _ => by go_simp) hS ?_
        simp only [Act.put, List.setIfInBounds_toArray, List.set_cons_zero, List.set_cons_succ]
        refine wpAnyL_one (i := 1) (by kernel_rfl) rfl (by rfl) fun K hK => ?_
        refine wp_call_fn 50 _ _ (by rfl) #[.slice ao n c] (by with_unfolding_all rfl) entQL (some 10) (by rfl) _ (asV (unhide HL1 X0 hS)) ?_
        rintro _ X1 ⟨rfl, hb⟩
        have HS1 : Hid (Below W1.heap.size W1 X1) := Below.step hS hb
        clear hb hS
        refine hK _ _ (fun _ => unhide HS1) ?_
        clear hK K
        simp only [Act.put, List.setIfInBounds_toArray, List.set_cons_zero, List.set_cons_succ]
        refine wpAnyL_take 2 11 (.bool false) [3, 6, 9] rfl rfl (by kernel_rfl) (by kernel_rfl) (by kernel_rfl) (by kernel_rfl) (by kernel_rfl) (fun _ _ _ h => h) (by rfl) (fun _ _ => by go_simp) (unhide HS1) ?_
        simp only [Act.put, List.setIfInBounds_toArray, List.set_cons_zero, List.set_cons_succ]
        refine wpAnyL_take 3 12 (.bool false) [6, 9] rfl rfl (by kernel_rfl) (by kernel_rfl) (by kernel_rfl) (by kernel_rfl) (by kernel_rfl) (fun _ _ _ h => h) (by rfl) (fun _ _ => by go_simp) (unhide HS1) ?_
        simp only [Act.put, List.setIfInBounds_toArray, List.set_cons_zero, List.set_cons_succ]
        refine wpAnyL_take 4 13 (.agg #[.string ek, .string es]) [5, 6, 9] rfl rfl (by kernel_rfl) (by kernel_rfl) (by kernel_rfl) (by kernel_rfl) (by kernel_rfl) (fun _ _ _ h => h) (by rfl) (fun G hG => by obtain ⟨e0, e1⟩ := box2 (box_below (unhide HX1) hG); go_simp) (unhide HS1) ?_
        simp only [Act.put, List.setIfInBounds_toArray, List.set_cons_zero, List.set_cons_succ]
        refine wpAnyL_one (i := 5) (by kernel_rfl) rfl (by rfl) fun K hK => ?_
        refine wp_buildTo (by rfl) (.slice (some ⟨X1.heap.size, 0, none⟩) 1 1) (X1.alloc (.cells #[.string ek, .string es] 43)) (by simp only [List.map_toArray, List.map_cons, List.map_nil]; exact bsE X1 ek es) (some 14) (by rfl) ?_
        have HS2 : Hid (Below W1.heap.size W1 (X1.alloc (.cells #[.string ek, .string es] 43))) := (unhide HS1).alloc (unhide HS1).size _
        have HE2 : Hid (El (X1.alloc (.cells #[.string ek, .string es] 43)) [(ek, es)] (some ⟨X1.heap.size, 0, none⟩) 1 1) := El.one X1 (ek, es) _
        refine hK _ _ (fun _ => unhide HS2) ?_
        clear hK K
        simp only [Act.put, List.setIfInBounds_toArray, List.set_cons_zero, List.set_cons_succ]
        generalize X1.alloc (.cells #[.string ek, .string es] 43) = X2 at HS2 HE2 ⊢
        clear HS1
        refine wpAnyL_one (i := 6) (by kernel_rfl) rfl (by rfl) fun K hK => ?_
        refine wp_call_fn 50 _ _ (by rfl) #[.slice (some ⟨X1.heap.size, 0, none⟩) 1 1] (by with_unfolding_all rfl) entQL (some 15) (by rfl) _ (asV (unhide HL2 X2 _ (unhide HE2))) ?_
        rintro _ X3 ⟨rfl, hb⟩
        have HS3 : Hid (Below W1.heap.size W1 X3) := Below.step (unhide HS2) hb
        clear hb HS2 HE2
        refine hK _ _ (fun _ => unhide HS3) ?_
        clear hK K
        simp only [Act.put, List.setIfInBounds_toArray, List.set_cons_zero, List.set_cons_succ]
        refine wpAnyL_take 7 16 (.bool false) [8, 9] rfl rfl (by kernel_rfl) (by kernel_rfl) (by kernel_rfl) (by kernel_rfl) (by kernel_rfl) (fun _ _ _ h => h) (by rfl) (fun _ _ => by go_simp) (unhide HS3) ?_
        simp only [Act.put, List.setIfInBounds_toArray, List.set_cons_zero, List.set_cons_succ]
        refine wpAnyL_take 8 17 (.bool false) [9] rfl rfl (by kernel_rfl) (by kernel_rfl) (by kernel_rfl) (by kernel_rfl) (by kernel_rfl) (fun _ _ _ h => h) (by rfl) (fun _ _ => by go_simp) (unhide HS3) ?_
        simp only [Act.put, List.setIfInBounds_toArray, List.set_cons_zero, List.set_cons_succ]
        refine wpAnyL_take 9 18 (.bool false) [] rfl rfl (by kernel_rfl) (by kernel_rfl) (by kernel_rfl) (by kernel_rfl) (by kernel_rfl) (fun _ _ _ h => h) (by rfl) (fun _ _ => by go_simp) (unhide HS3) ?_
        simp only [Act.put, List.setIfInBounds_toArray, List.set_cons_zero, List.set_cons_succ]
        refine wpAnyL_take 10 19 (.slice ao n c) [11, 12, 13, 23] rfl rfl (by kernel_rfl) (by kernel_rfl) (by kernel_rfl) (by kernel_rfl) (by kernel_rfl) (fun _ _ _ h => h) (by rfl) (fun _ _ => by go_simp) (unhide HS3) ?_
        simp only [Act.put, List.setIfInBounds_toArray, List.set_cons_zero, List.set_cons_succ]
        refine wpAnyL_take 11 20 (.int .i64 (n : Int)) [12, 13, 23] rfl rfl (by kernel_rfl) (by kernel_rfl) (by kernel_rfl) (by kernel_rfl) (by kernel_rfl) (fun _ _ _ h => h) (by rfl) (fun _ _ => by go_simp) (unhide HS3) ?_
        simp only [Act.put, List.setIfInBounds_toArray, List.set_cons_zero, List.set_cons_succ]
        refine wpAnyL_take 12 21 (.bool false) [13, 23] rfl rfl (by kernel_rfl) (by kernel_rfl) (by kernel_rfl) (by kernel_rfl) (by kernel_rfl) (fun _ _ _ h => h) (by rfl) (fun _ _ => by go_simp) (unhide HS3) ?_
        simp only [Act.put, List.setIfInBounds_toArray, List.set_cons_zero, List.set_cons_succ]
        refine wpAnyL_take 13 22 (.bool false) [23] rfl rfl (by kernel_rfl) (by kernel_rfl) (by kernel_rfl) (by kernel_rfl) (by kernel_rfl) (fun _ _ _ h => h) (by rfl) (fun _ _ => by go_simp) (unhide HS3) ?_
        simp only [Act.put, List.setIfInBounds_toArray, List.set_cons_zero, List.set_cons_succ]
        refine wpAnyL_skip 14 23 [15, 16, 22, 23] rfl rfl (by kernel_rfl) (by kernel_rfl) (by kernel_rfl) (by kernel_rfl) (by kernel_rfl) (fun _ _ _ h => h) (by rfl) (unhide HS3) ?_
        simp only [Act.put, List.setIfInBounds_toArray, List.set_cons_zero, List.set_cons_succ]
        refine wpAnyL_skip 15 24 [16, 22, 23] rfl rfl (by kernel_rfl) (by kernel_rfl) (by kernel_rfl) (by kernel_rfl) (by kernel_rfl) (fun _ _ _ h => h) (by rfl) (unhide HS3) ?_
        simp only [Act.put, List.setIfInBounds_toArray, List.set_cons_zero, List.set_cons_succ]
        refine wpAnyL_skip 16 25 [22, 23] rfl rfl (by kernel_rfl) (by kernel_rfl) (by kernel_rfl) (by kernel_rfl) (by kernel_rfl) (fun _ _ _ h => h) (by rfl) (unhide HS3) ?_
        simp only [Act.put, List.setIfInBounds_toArray, List.set_cons_zero, List.set_cons_succ]
        refine wpAnyL_skip 17 26 [18, 19, 20, 21, 22, 23] rfl rfl (by kernel_rfl) (by kernel_rfl) (by kernel_rfl) (by kernel_rfl) (by kernel_rfl) (fun _ _ _ h => h) (by rfl) (unhide HS3) ?_
        simp only [Act.put, List.setIfInBounds_toArray, List.set_cons_zero, List.set_cons_succ]
        refine wpAnyL_skip 18 27 [19, 20, 21, 22, 23] rfl rfl (by kernel_rfl) (by kernel_rfl) (by kernel_rfl) (by kernel_rfl) (by kernel_rfl) (fun _ _ _ h => h) (by rfl) (unhide HS3) ?_
        simp only [Act.put, List.setIfInBounds_toArray, List.set_cons_zero, List.set_cons_succ]
        refine wpAnyL_skip 19 28 [20, 21, 22, 23] rfl rfl (by kernel_rfl) (by kernel_rfl) (by kernel_rfl) (by kernel_rfl) (by kernel_rfl) (fun _ _ _ h => h) (by rfl) (unhide HS3) ?_
        simp only [Act.put, List.setIfInBounds_toArray, List.set_cons_zero, List.set_cons_succ]
        refine wpAnyL_skip 20 29 [21, 22, 23] rfl rfl (by kernel_rfl) (by kernel_rfl) (by kernel_rfl) (by kernel_rfl) (by kernel_rfl) (fun _ _ _ h => h) (by rfl) (unhide HS3) ?_
        simp only [Act.put, List.setIfInBounds_toArray, List.set_cons_zero, List.set_cons_succ]
        refine wpAnyL_skip 21 30 [22, 23] rfl rfl (by kernel_rfl) (by kernel_rfl) (by kernel_rfl) (by kernel_rfl) (by kernel_rfl) (fun _ _ _ h => h) (by rfl) (unhide HS3) ?_
        simp only [Act.put, List.setIfInBounds_toArray, List.set_cons_zero, List.set_cons_succ]
        refine wpAnyL_skip 22 31 [23] rfl rfl (by kernel_rfl) (by kernel_rfl) (by kernel_rfl) (by kernel_rfl) (by kernel_rfl) (fun _ _ _ h => h) (by rfl) (unhide HS3) ?_
        simp only [Act.put, List.setIfInBounds_toArray, List.set_cons_zero, List.set_cons_succ]
        refine wpAnyL_take 23 32 (.bool false) [] rfl rfl (by kernel_rfl) (by kernel_rfl) (by kernel_rfl) (by kernel_rfl) (by kernel_rfl) (fun _ _ _ h => h) (by rfl) (fun _ _ => by go_simp) (unhide HS3) ?_
        simp only [Act.put, List.setIfInBounds_toArray, List.set_cons_zero, List.set_cons_succ]
        refine wpAnyL_one (i := 24) (by kernel_rfl) rfl (by rfl) fun K hK => ?_
        refine wp_val (.bool false) (by go_simp) (some 33) (by rfl) ?_
        refine hK _ _ (fun _ => unhide HS3) ?_
        clear hK K
        simp only [Act.put, List.setIfInBounds_toArray, List.set_cons_zero, List.set_cons_succ]
        refine wpAnyL_done (by kernel_rfl) ?_ _
        have HSE := HS3
        clear HS3
        clear h0 hpos HL1 HL2 HQ1
        have HBX : Hid (∀ G : World, Below W1.heap.size W1 G → G.cell? ⟨N, 0, none⟩ = some (.string ek) ∧ G.cell? ⟨N, 1, none⟩ = some (.string es)) := fun G hG => box2 (box_below (unhide HX1) hG)
        have HWL : Hid (W1.heap.size ≥ u.heap.size) := (unhide HU1).size
        go_wp2
        go_loopw [6, 7, 8] (fun so st si wr => ∃ (i m cc : Nat) (xo : Option Addr) (pt : Bool) (acc : List En), i ≤ n ∧ si = .int .i64 i ∧ st = .bool pt ∧ so = .slice xo m cc ∧ Hid (PI l (ek, es) i pt acc) ∧ Hid (m = acc.length) ∧ Hid (RE.Own wr W1.heap.size acc xo cc) ∧ Hid (Below W1.heap.size W1 wr)) (fun _ _ si _ => n - (intOf si).toNat)
        case atStart => exact ⟨0, 0, 0, none, false, [], Nat.zero_le _, rfl, rfl, rfl, PI.nil _ _, rfl, Rec.Own.none _ _, unhide HSE⟩
        case round =>
          clear HSE
          obtain ⟨i, m, cc, xo, pt, acc, hin, rfl, rfl, rfl, HPI, HML, HO, HI⟩ := hrel
          have HLE : Hid ((acc.length + [(ek, es)].length) * 32 ≤ 140737488355328) := by
            have h1 := (unhide HPI).len (by rw [← unhide HRN]; exact hin)
            have h2 := unhide HRN
            show (_ + 1) * 32 ≤ _; omega
          by_cases hlt : i < n
          · have hii : (i : Int) < (n : Int) := by omega
            have hil : i < l.length := by rw [← unhide HRN]; exact hlt
            have HLX : Hid (∀ x : En, (acc.length + [x].length) * 32 ≤ 140737488355328) := fun x => unhide HLE
            have HLY : Hid (∀ x : En, ((acc ++ [(ek, es)]).length + [x].length) * 32 ≤ 140737488355328) := fun x => by
              have h1 := (unhide HPI).len (by omega)
              have h2 := unhide HRN
              rw [List.length_append]; show (_ + 1 + 1) * 32 ≤ _; omega
            obtain ⟨g, o, hao, z1, z2⟩ := ((unhide HH).below (Below.step (unhide HU1) (unhide HI))).en hil
            clear z1 z2
            have HCL : Hid (∀ G : World, Below W1.heap.size W1 G → G.cell? ⟨g, o + i * 2, none⟩ = some (.string l[i].1) ∧ G.cell? ⟨g, o + i * 2 + 1, none⟩ = some (.string l[i].2)) := fun G hG => by
              obtain ⟨g', o', hao', d1, d2⟩ := ((unhide HH).below (Below.step (unhide HU1) hG)).en hil
              rw [hao] at hao'
              cases hao'
              exact ⟨d1, d2⟩
            have hix := ixE g o n c i hlt
            rw [hao] at *
            cases pt
            · by_cases h1 : lt l[i].1 ek = true
              · have HN1 := hide ((unhide HPI).a hil h1)
                have hq0 : ¬ l[i].1 = ek := lt_ne h1
                unfold lt at h1
                generalize l[i] = x at *
                obtain ⟨xk, xs⟩ := x
                have HCL : Hid (∀ G : World, Below W1.heap.size W1 G → G.cell? ⟨g, o + i * 2, none⟩ = some (.string xk) ∧ G.cell? ⟨g, o + i * 2 + 1, none⟩ = some (.string xs)) := HCL
                generalize o + i * 2 = oo at *
                have h1 : Op.bytesLess xk.toList ek.toList = true := h1
                have hq : (xk.toList == ek.toList) = false := by rw [ba_beq]; exact decide_eq_false hq0
                clear hq0
                have HLX := hide (unhide HLX (xk, xs))
                go_wp2_with fail
                refine wp_region_last (fun G => Below W1.heap.size W1 G) 11 hmix (belowDrew (unhide HI)) fun hS => ?_
                have HOY1 : Hid (RE.Own wr.drew W1.heap.size (acc) xo cc) := (unhide HO).below (belowDrew (Below.refl _ _))
                generalize wr.drew = Y1 at hS HOY1 ⊢
                refine wpAnyL_take 0 40 (.bool false) [1, 2] rfl rfl (by kernel_rfl) (by kernel_rfl) (by kernel_rfl) (by kernel_rfl) (by kernel_rfl) (fun _ _ _ h => h) (by rfl) (fun _ _ => by go_simp) hS ?_
                simp only [Act.put, List.setIfInBounds_toArray, List.set_cons_zero, List.set_cons_succ]
                refine wpAnyL_take 1 41 (.bool true) [2] rfl rfl (by kernel_rfl) (by kernel_rfl) (by kernel_rfl) (by kernel_rfl) (by kernel_rfl) (fun _ _ _ h => h) (by rfl) (fun _ _ => by go_simp) hS ?_
                simp only [Act.put, List.setIfInBounds_toArray, List.set_cons_zero, List.set_cons_succ]
                refine wpAnyL_take 2 42 (.bool true) [] rfl rfl (by kernel_rfl) (by kernel_rfl) (by kernel_rfl) (by kernel_rfl) (by kernel_rfl) (fun _ _ _ h => h) (by rfl) (fun _ _ => by go_simp) hS ?_
                simp only [Act.put, List.setIfInBounds_toArray, List.set_cons_zero, List.set_cons_succ]
                refine wpAnyL_take 3 43 (.slice (some ⟨g, o, none⟩) n c) [5, 6, 7, 10] rfl rfl (by kernel_rfl) (by kernel_rfl) (by kernel_rfl) (by kernel_rfl) (by kernel_rfl) (fun _ _ _ h => h) (by rfl) (fun _ _ => by go_simp) hS ?_
                simp only [Act.put, List.setIfInBounds_toArray, List.set_cons_zero, List.set_cons_succ]
                refine wpAnyL_take 4 44 (.int .i64 (i : Int)) [5, 6, 7, 10] rfl rfl (by kernel_rfl) (by kernel_rfl) (by kernel_rfl) (by kernel_rfl) (by kernel_rfl) (fun _ _ _ h => h) (by rfl) (fun _ _ => by go_simp) hS ?_
                simp only [Act.put, List.setIfInBounds_toArray, List.set_cons_zero, List.set_cons_succ]
                refine wpAnyL_take 5 45 (.pointer (some ⟨g, oo, none⟩)) [6, 7, 10] rfl rfl (by kernel_rfl) (by kernel_rfl) (by kernel_rfl) (by kernel_rfl) (by kernel_rfl) (fun _ _ _ h => h) (by rfl) (fun _ _ => by go_simp) hS ?_
                simp only [Act.put, List.setIfInBounds_toArray, List.set_cons_zero, List.set_cons_succ]
                refine wpAnyL_take 6 46 (.pointer (some ⟨g, oo, none⟩)) [7, 10] rfl rfl (by kernel_rfl) (by kernel_rfl) (by kernel_rfl) (by kernel_rfl) (by kernel_rfl) (fun _ _ _ h => h) (by rfl) (fun _ _ => by go_simp) hS ?_
                simp only [Act.put, List.setIfInBounds_toArray, List.set_cons_zero, List.set_cons_succ]
                refine wpAnyL_take 7 47 (.string xk) [10] rfl rfl (by kernel_rfl) (by kernel_rfl) (by kernel_rfl) (by kernel_rfl) (by kernel_rfl) (fun _ _ _ h => h) (by rfl) (fun G hG => by obtain ⟨e0, e1⟩ := unhide HCL G hG; go_simp) hS ?_
                simp only [Act.put, List.setIfInBounds_toArray, List.set_cons_zero, List.set_cons_succ]
                refine wpAnyL_take 8 48 (.pointer (some ⟨N, 0, none⟩)) [9, 10] rfl rfl (by kernel_rfl) (by kernel_rfl) (by kernel_rfl) (by kernel_rfl) (by kernel_rfl) (fun _ _ _ h => h) (by rfl) (fun _ _ => by go_simp) hS ?_
                simp only [Act.put, List.setIfInBounds_toArray, List.set_cons_zero, List.set_cons_succ]
                refine wpAnyL_take 9 49 (.string ek) [10] rfl rfl (by kernel_rfl) (by kernel_rfl) (by kernel_rfl) (by kernel_rfl) (by kernel_rfl) (fun _ _ _ h => h) (by rfl) (fun G hG => by obtain ⟨e0, e1⟩ := unhide HBX G hG; go_simp) hS ?_
                simp only [Act.put, List.setIfInBounds_toArray, List.set_cons_zero, List.set_cons_succ]
                refine wpAnyL_take 10 50 (.bool false) [] rfl rfl (by kernel_rfl) (by kernel_rfl) (by kernel_rfl) (by kernel_rfl) (by kernel_rfl) (fun _ _ _ h => h) (by rfl) (fun _ _ => by go_simp) hS ?_
                simp only [Act.put, List.setIfInBounds_toArray, List.set_cons_zero, List.set_cons_succ]
                refine wpAnyL_one (i := 11) (by kernel_rfl) rfl (by rfl) fun K hK => ?_
                refine wp_val (.bool false) (by go_simp) (some 51) (by rfl) ?_
                refine hK _ _ (fun _ => hS) ?_
                clear hK K
                simp only [Act.put, List.setIfInBounds_toArray, List.set_cons_zero, List.set_cons_succ]
                refine wpAnyL_done (by kernel_rfl) ?_ _
                have HIY1 := hide hS
                clear hS
                obtain ⟨c1Y1, c2Y1⟩ := unhide HCL Y1 (unhide HIY1)
                obtain ⟨b1Y1, b2Y1⟩ := unhide HBX Y1 (unhide HIY1)
                go_wp2_with fail
                refine wp_region_last (fun G => Below W1.heap.size W1 G) 7 hmix (belowDrew (unhide HIY1)) fun hS => ?_
                have HOY2 : Hid (RE.Own Y1.drew W1.heap.size (acc) xo cc) := (unhide HOY1).below (belowDrew (Below.refl _ _))
                generalize Y1.drew = Y2 at hS HOY2 ⊢
                refine wpAnyL_take 0 56 (.slice (some ⟨g, o, none⟩) n c) [2, 3, 4] rfl rfl (by kernel_rfl) (by kernel_rfl) (by kernel_rfl) (by kernel_rfl) (by kernel_rfl) (fun _ _ _ h => h) (by rfl) (fun _ _ => by go_simp) hS ?_
                simp only [Act.put, List.setIfInBounds_toArray, List.set_cons_zero, List.set_cons_succ]
                refine wpAnyL_take 1 57 (.int .i64 (i : Int)) [2, 3, 4] rfl rfl (by kernel_rfl) (by kernel_rfl) (by kernel_rfl) (by kernel_rfl) (by kernel_rfl) (fun _ _ _ h => h) (by rfl) (fun _ _ => by go_simp) hS ?_
                simp only [Act.put, List.setIfInBounds_toArray, List.set_cons_zero, List.set_cons_succ]
                refine wpAnyL_take 2 58 (.pointer (some ⟨g, oo, none⟩)) [3, 4] rfl rfl (by kernel_rfl) (by kernel_rfl) (by kernel_rfl) (by kernel_rfl) (by kernel_rfl) (fun _ _ _ h => h) (by rfl) (fun _ _ => by go_simp) hS ?_
                simp only [Act.put, List.setIfInBounds_toArray, List.set_cons_zero, List.set_cons_succ]
                refine wpAnyL_take 3 59 (.pointer (some ⟨g, oo, none⟩)) [4] rfl rfl (by kernel_rfl) (by kernel_rfl) (by kernel_rfl) (by kernel_rfl) (by kernel_rfl) (fun _ _ _ h => h) (by rfl) (fun _ _ => by go_simp) hS ?_
                simp only [Act.put, List.setIfInBounds_toArray, List.set_cons_zero, List.set_cons_succ]
                refine wpAnyL_take 4 60 (.string xk) [] rfl rfl (by kernel_rfl) (by kernel_rfl) (by kernel_rfl) (by kernel_rfl) (by kernel_rfl) (fun _ _ _ h => h) (by rfl) (fun G hG => by obtain ⟨e0, e1⟩ := unhide HCL G hG; go_simp) hS ?_
                simp only [Act.put, List.setIfInBounds_toArray, List.set_cons_zero, List.set_cons_succ]
                refine wpAnyL_take 5 61 (.pointer (some ⟨N, 0, none⟩)) [6] rfl rfl (by kernel_rfl) (by kernel_rfl) (by kernel_rfl) (by kernel_rfl) (by kernel_rfl) (fun _ _ _ h => h) (by rfl) (fun _ _ => by go_simp) hS ?_
                simp only [Act.put, List.setIfInBounds_toArray, List.set_cons_zero, List.set_cons_succ]
                refine wpAnyL_take 6 62 (.string ek) [] rfl rfl (by kernel_rfl) (by kernel_rfl) (by kernel_rfl) (by kernel_rfl) (by kernel_rfl) (fun _ _ _ h => h) (by rfl) (fun G hG => by obtain ⟨e0, e1⟩ := unhide HBX G hG; go_simp) hS ?_
                simp only [Act.put, List.setIfInBounds_toArray, List.set_cons_zero, List.set_cons_succ]
                refine wpAnyL_one (i := 7) (by kernel_rfl) rfl (by rfl) fun K hK => ?_
                refine wp_val (.bool true) (by go_simp) (some 63) (by rfl) ?_
                refine hK _ _ (fun _ => hS) ?_
                clear hK K
                simp only [Act.put, List.setIfInBounds_toArray, List.set_cons_zero, List.set_cons_succ]
                refine wpAnyL_done (by kernel_rfl) ?_ _
                have HIY2 := hide hS
                clear hS
                obtain ⟨c1Y2, c2Y2⟩ := unhide HCL Y2 (unhide HIY2)
                obtain ⟨b1Y2, b2Y2⟩ := unhide HBX Y2 (unhide HIY2)
                have HO4' : Hid (RE.Own (Y2.alloc (.cells #[.string xk, .string xs] 43)) W1.heap.size (acc) xo cc) := (unhide HOY2).below ((Below.refl _ _).alloc (Nat.le_refl _) _)
                have HA4' : Hid (RE.At (Y2.alloc (.cells #[.string xk, .string xs] 43)) [(xk, xs)] (some ⟨Y2.heap.size, 0, none⟩) 1) := RE.one Y2 (xk, xs) _
                have HZ4' : Hid (W1.heap.size ≤ (Y2.alloc (.cells #[.string xk, .string xs] 43)).heap.size) := Nat.le_trans (unhide HIY2).size (szNew Y2 _)
                go_wp2_with (first
                  | (at_builtin; (with_reducible refine wpList_putE (by rfl) (.tmp 64) (.tmp 69) (by rfl) (some 70) (by rfl) W1.heap.size (acc) [(xk, xs)] m 1 (unhide HML) rfl xo (some ⟨Y2.heap.size, 0, none⟩) cc 1 (by with_unfolding_all rfl) (by with_unfolding_all rfl) (unhide HO4') (unhide HA4') (unhide HLX) (unhide HZ4') ?_); intro x4 n4 c4 V4 HP4; simp only [Act.put, List.setIfInBounds_toArray, List.set_cons_zero, List.set_cons_succ]; have HI4 : Hid (Below W1.heap.size W1 V4) := ((unhide HIY2).alloc (unhide HIY2).size _).trans (unhide HP4).below; have HML4 : Hid (n4 = (acc ++ [(xk, xs)]).length) := (unhide HP4).len; have HOO4 := hide (unhide HP4).own)
                  | fail)
                go_roundw
                case rel => exact ⟨i + 1, n4, c4, x4, false, acc ++ [(xk, xs)], by omega, by go_num, rfl, rfl, unhide HN1, unhide HML4, unhide HOO4, unhide HI4⟩
                case measure => simp [intOf]; omega
              · rw [Bool.not_eq_true] at h1
                by_cases h2 : l[i].1 = ek
                · have HN1 := hide ((unhide HPI).c hil h2 (unhide HPR))
                  unfold lt at h1
                  generalize l[i] = x at *
                  obtain ⟨xk, xs⟩ := x
                  have HCL : Hid (∀ G : World, Below W1.heap.size W1 G → G.cell? ⟨g, o + i * 2, none⟩ = some (.string xk) ∧ G.cell? ⟨g, o + i * 2 + 1, none⟩ = some (.string xs)) := HCL
                  generalize o + i * 2 = oo at *
                  have h1 : Op.bytesLess xk.toList ek.toList = false := h1
                  have hq : (xk.toList == ek.toList) = true := by rw [ba_beq]; exact decide_eq_true h2
                  clear h2
                  go_wp2_with fail
                  refine wp_region_last (fun G => Below W1.heap.size W1 G) 11 hmix (belowDrew (unhide HI)) fun hS => ?_
                  have HOY1 : Hid (RE.Own wr.drew W1.heap.size (acc) xo cc) := (unhide HO).below (belowDrew (Below.refl _ _))
                  generalize wr.drew = Y1 at hS HOY1 ⊢
                  refine wpAnyL_take 0 40 (.bool false) [1, 2] rfl rfl (by kernel_rfl) (by kernel_rfl) (by kernel_rfl) (by kernel_rfl) (by kernel_rfl) (fun _ _ _ h => h) (by rfl) (fun _ _ => by go_simp) hS ?_
                  simp only [Act.put, List.setIfInBounds_toArray, List.set_cons_zero, List.set_cons_succ]
                  refine wpAnyL_take 1 41 (.bool true) [2] rfl rfl (by kernel_rfl) (by kernel_rfl) (by kernel_rfl) (by kernel_rfl) (by kernel_rfl) (fun _ _ _ h => h) (by rfl) (fun _ _ => by go_simp) hS ?_
                  simp only [Act.put, List.setIfInBounds_toArray, List.set_cons_zero, List.set_cons_succ]
                  refine wpAnyL_take 2 42 (.bool true) [] rfl rfl (by kernel_rfl) (by kernel_rfl) (by kernel_rfl) (by kernel_rfl) (by kernel_rfl) (fun _ _ _ h => h) (by rfl) (fun _ _ => by go_simp) hS ?_
                  simp only [Act.put, List.setIfInBounds_toArray, List.set_cons_zero, List.set_cons_succ]
                  refine wpAnyL_take 3 43 (.slice (some ⟨g, o, none⟩) n c) [5, 6, 7, 10] rfl rfl (by kernel_rfl) (by kernel_rfl) (by kernel_rfl) (by kernel_rfl) (by kernel_rfl) (fun _ _ _ h => h) (by rfl) (fun _ _ => by go_simp) hS ?_
                  simp only [Act.put, List.setIfInBounds_toArray, List.set_cons_zero, List.set_cons_succ]
                  refine wpAnyL_take 4 44 (.int .i64 (i : Int)) [5, 6, 7, 10] rfl rfl (by kernel_rfl) (by kernel_rfl) (by kernel_rfl) (by kernel_rfl) (by kernel_rfl) (fun _ _ _ h => h) (by rfl) (fun _ _ => by go_simp) hS ?_
                  simp only [Act.put, List.setIfInBounds_toArray, List.set_cons_zero, List.set_cons_succ]
                  refine wpAnyL_take 5 45 (.pointer (some ⟨g, oo, none⟩)) [6, 7, 10] rfl rfl (by kernel_rfl) (by kernel_rfl) (by kernel_rfl) (by kernel_rfl) (by kernel_rfl) (fun _ _ _ h => h) (by rfl) (fun _ _ => by go_simp) hS ?_
                  simp only [Act.put, List.setIfInBounds_toArray, List.set_cons_zero, List.set_cons_succ]
                  refine wpAnyL_take 6 46 (.pointer (some ⟨g, oo, none⟩)) [7, 10] rfl rfl (by kernel_rfl) (by kernel_rfl) (by kernel_rfl) (by kernel_rfl) (by kernel_rfl) (fun _ _ _ h => h) (by rfl) (fun _ _ => by go_simp) hS ?_
                  simp only [Act.put, List.setIfInBounds_toArray, List.set_cons_zero, List.set_cons_succ]
                  refine wpAnyL_take 7 47 (.string xk) [10] rfl rfl (by kernel_rfl) (by kernel_rfl) (by kernel_rfl) (by kernel_rfl) (by kernel_rfl) (fun _ _ _ h => h) (by rfl) (fun G hG => by obtain ⟨e0, e1⟩ := unhide HCL G hG; go_simp) hS ?_
                  simp only [Act.put, List.setIfInBounds_toArray, List.set_cons_zero, List.set_cons_succ]
                  refine wpAnyL_take 8 48 (.pointer (some ⟨N, 0, none⟩)) [9, 10] rfl rfl (by kernel_rfl) (by kernel_rfl) (by kernel_rfl) (by kernel_rfl) (by kernel_rfl) (fun _ _ _ h => h) (by rfl) (fun _ _ => by go_simp) hS ?_
                  simp only [Act.put, List.setIfInBounds_toArray, List.set_cons_zero, List.set_cons_succ]
                  refine wpAnyL_take 9 49 (.string ek) [10] rfl rfl (by kernel_rfl) (by kernel_rfl) (by kernel_rfl) (by kernel_rfl) (by kernel_rfl) (fun _ _ _ h => h) (by rfl) (fun G hG => by obtain ⟨e0, e1⟩ := unhide HBX G hG; go_simp) hS ?_
                  simp only [Act.put, List.setIfInBounds_toArray, List.set_cons_zero, List.set_cons_succ]
                  refine wpAnyL_take 10 50 (.bool true) [] rfl rfl (by kernel_rfl) (by kernel_rfl) (by kernel_rfl) (by kernel_rfl) (by kernel_rfl) (fun _ _ _ h => h) (by rfl) (fun _ _ => by go_simp) hS ?_
                  simp only [Act.put, List.setIfInBounds_toArray, List.set_cons_zero, List.set_cons_succ]
                  refine wpAnyL_one (i := 11) (by kernel_rfl) rfl (by rfl) fun K hK => ?_
                  refine wp_val (.bool true) (by go_simp) (some 51) (by rfl) ?_
                  refine hK _ _ (fun _ => hS) ?_
                  clear hK K
                  simp only [Act.put, List.setIfInBounds_toArray, List.set_cons_zero, List.set_cons_succ]
                  refine wpAnyL_done (by kernel_rfl) ?_ _
                  have HIY1 := hide hS
                  clear hS
                  obtain ⟨c1Y1, c2Y1⟩ := unhide HCL Y1 (unhide HIY1)
                  obtain ⟨b1Y1, b2Y1⟩ := unhide HBX Y1 (unhide HIY1)
                  have HO5' : Hid (RE.Own (Y1.alloc (.cells #[.string ek, .string es] 43)) W1.heap.size (acc) xo cc) := (unhide HOY1).below ((Below.refl _ _).alloc (Nat.le_refl _) _)
                  have HA5' : Hid (RE.At (Y1.alloc (.cells #[.string ek, .string es] 43)) [(ek, es)] (some ⟨Y1.heap.size, 0, none⟩) 1) := RE.one Y1 (ek, es) _
                  have HZ5' : Hid (W1.heap.size ≤ (Y1.alloc (.cells #[.string ek, .string es] 43)).heap.size) := Nat.le_trans (unhide HIY1).size (szNew Y1 _)
                  go_wp2_with (first
                    | (at_builtin; (with_reducible refine wpList_putE (by rfl) (.tmp 52) (.tmp 54) (by rfl) (some 55) (by rfl) W1.heap.size (acc) [(ek, es)] m 1 (unhide HML) rfl xo (some ⟨Y1.heap.size, 0, none⟩) cc 1 (by with_unfolding_all rfl) (by with_unfolding_all rfl) (unhide HO5') (unhide HA5') (unhide HLE) (unhide HZ5') ?_); intro x5 n5 c5 V5 HP5; simp only [Act.put, List.setIfInBounds_toArray, List.set_cons_zero, List.set_cons_succ]; have HI5 : Hid (Below W1.heap.size W1 V5) := ((unhide HIY1).alloc (unhide HIY1).size _).trans (unhide HP5).below; have HML5 : Hid (n5 = (acc ++ [(ek, es)]).length) := (unhide HP5).len; have HOO5 := hide (unhide HP5).own)
                    | fail)
                  refine wp_region_last (fun G => Below W1.heap.size W1 G) 7 hmix (belowDrew (unhide HI5)) fun hS => ?_
                  have HOY2 : Hid (RE.Own V5.drew W1.heap.size (acc ++ [(ek, es)]) x5 c5) := (unhide HOO5).below (belowDrew (Below.refl _ _))
                  generalize V5.drew = Y2 at hS HOY2 ⊢
                  refine wpAnyL_take 0 56 (.slice (some ⟨g, o, none⟩) n c) [2, 3, 4] rfl rfl (by kernel_rfl) (by kernel_rfl) (by kernel_rfl) (by kernel_rfl) (by kernel_rfl) (fun _ _ _ h => h) (by rfl) (fun _ _ => by go_simp) hS ?_
                  simp only [Act.put, List.setIfInBounds_toArray, List.set_cons_zero, List.set_cons_succ]
                  refine wpAnyL_take 1 57 (.int .i64 (i : Int)) [2, 3, 4] rfl rfl (by kernel_rfl) (by kernel_rfl) (by kernel_rfl) (by kernel_rfl) (by kernel_rfl) (fun _ _ _ h => h) (by rfl) (fun _ _ => by go_simp) hS ?_
                  simp only [Act.put, List.setIfInBounds_toArray, List.set_cons_zero, List.set_cons_succ]
                  refine wpAnyL_take 2 58 (.pointer (some ⟨g, oo, none⟩)) [3, 4] rfl rfl (by kernel_rfl) (by kernel_rfl) (by kernel_rfl) (by kernel_rfl) (by kernel_rfl) (fun _ _ _ h => h) (by rfl) (fun _ _ => by go_simp) hS ?_
                  simp only [Act.put, List.setIfInBounds_toArray, List.set_cons_zero, List.set_cons_succ]
                  refine wpAnyL_take 3 59 (.pointer (some ⟨g, oo, none⟩)) [4] rfl rfl (by kernel_rfl) (by kernel_rfl) (by kernel_rfl) (by kernel_rfl) (by kernel_rfl) (fun _ _ _ h => h) (by rfl) (fun _ _ => by go_simp) hS ?_
                  simp only [Act.put, List.setIfInBounds_toArray, List.set_cons_zero, List.set_cons_succ]
                  refine wpAnyL_take 4 60 (.string xk) [] rfl rfl (by kernel_rfl) (by kernel_rfl) (by kernel_rfl) (by kernel_rfl) (by kernel_rfl) (fun _ _ _ h => h) (by rfl) (fun G hG => by obtain ⟨e0, e1⟩ := unhide HCL G hG; go_simp) hS ?_
                  simp only [Act.put, List.setIfInBounds_toArray, List.set_cons_zero, List.set_cons_succ]
                  refine wpAnyL_take 5 61 (.pointer (some ⟨N, 0, none⟩)) [6] rfl rfl (by kernel_rfl) (by kernel_rfl) (by kernel_rfl) (by kernel_rfl) (by kernel_rfl) (fun _ _ _ h => h) (by rfl) (fun _ _ => by go_simp) hS ?_
                  simp only [Act.put, List.setIfInBounds_toArray, List.set_cons_zero, List.set_cons_succ]
                  refine wpAnyL_take 6 62 (.string ek) [] rfl rfl (by kernel_rfl) (by kernel_rfl) (by kernel_rfl) (by kernel_rfl) (by kernel_rfl) (fun _ _ _ h => h) (by rfl) (fun G hG => by obtain ⟨e0, e1⟩ := unhide HBX G hG; go_simp) hS ?_
                  simp only [Act.put, List.setIfInBounds_toArray, List.set_cons_zero, List.set_cons_succ]
                  refine wpAnyL_one (i := 7) (by kernel_rfl) rfl (by rfl) fun K hK => ?_
                  refine wp_val (.bool false) (by go_simp) (some 63) (by rfl) ?_
                  refine hK _ _ (fun _ => hS) ?_
                  clear hK K
                  simp only [Act.put, List.setIfInBounds_toArray, List.set_cons_zero, List.set_cons_succ]
                  refine wpAnyL_done (by kernel_rfl) ?_ _
                  have HIY2 := hide hS
                  clear hS
                  obtain ⟨c1Y2, c2Y2⟩ := unhide HCL Y2 (unhide HIY2)
                  obtain ⟨b1Y2, b2Y2⟩ := unhide HBX Y2 (unhide HIY2)
                  go_wp2_with fail
                  go_roundw
                  case rel => exact ⟨i + 1, n5, c5, x5, true, acc ++ [(ek, es)], by omega, by go_num, rfl, rfl, unhide HN1, unhide HML5, unhide HOY2, unhide HIY2⟩
                  case measure => simp [intOf]; omega
                · have HN1 := hide ((unhide HPI).b hil h1 h2 (unhide HPR))
                  unfold lt at h1
                  generalize l[i] = x at *
                  obtain ⟨xk, xs⟩ := x
                  have HCL : Hid (∀ G : World, Below W1.heap.size W1 G → G.cell? ⟨g, o + i * 2, none⟩ = some (.string xk) ∧ G.cell? ⟨g, o + i * 2 + 1, none⟩ = some (.string xs)) := HCL
                  generalize o + i * 2 = oo at *
                  have h1 : Op.bytesLess xk.toList ek.toList = false := h1
                  have hq : (xk.toList == ek.toList) = false := by rw [ba_beq]; exact decide_eq_false h2
                  clear h2
                  have HLY := hide (unhide HLY (xk, xs))
                  go_wp2_with fail
                  refine wp_region_last (fun G => Below W1.heap.size W1 G) 11 hmix (belowDrew (unhide HI)) fun hS => ?_
                  have HOY1 : Hid (RE.Own wr.drew W1.heap.size (acc) xo cc) := (unhide HO).below (belowDrew (Below.refl _ _))
                  generalize wr.drew = Y1 at hS HOY1 ⊢
                  refine wpAnyL_take 0 40 (.bool false) [1, 2] rfl rfl (by kernel_rfl) (by kernel_rfl) (by kernel_rfl) (by kernel_rfl) (by kernel_rfl) (fun _ _ _ h => h) (by rfl) (fun _ _ => by go_simp) hS ?_
                  simp only [Act.put, List.setIfInBounds_toArray, List.set_cons_zero, List.set_cons_succ]
                  refine wpAnyL_take 1 41 (.bool true) [2] rfl rfl (by kernel_rfl) (by kernel_rfl) (by kernel_rfl) (by kernel_rfl) (by kernel_rfl) (fun _ _ _ h => h) (by rfl) (fun _ _ => by go_simp) hS ?_
                  simp only [Act.put, List.setIfInBounds_toArray, List.set_cons_zero, List.set_cons_succ]
                  refine wpAnyL_take 2 42 (.bool true) [] rfl rfl (by kernel_rfl) (by kernel_rfl) (by kernel_rfl) (by kernel_rfl) (by kernel_rfl) (fun _ _ _ h => h) (by rfl) (fun _ _ => by go_simp) hS ?_
                  simp only [Act.put, List.setIfInBounds_toArray, List.set_cons_zero, List.set_cons_succ]
                  refine wpAnyL_take 3 43 (.slice (some ⟨g, o, none⟩) n c) [5, 6, 7, 10] rfl rfl (by kernel_rfl) (by kernel_rfl) (by kernel_rfl) (by kernel_rfl) (by kernel_rfl) (fun _ _ _ h => h) (by rfl) (fun _ _ => by go_simp) hS ?_
                  simp only [Act.put, List.setIfInBounds_toArray, List.set_cons_zero, List.set_cons_succ]
                  refine wpAnyL_take 4 44 (.int .i64 (i : Int)) [5, 6, 7, 10] rfl rfl (by kernel_rfl) (by kernel_rfl) (by kernel_rfl) (by kernel_rfl) (by kernel_rfl) (fun _ _ _ h => h) (by rfl) (fun _ _ => by go_simp) hS ?_
                  simp only [Act.put, List.setIfInBounds_toArray, List.set_cons_zero, List.set_cons_succ]
                  refine wpAnyL_take 5 45 (.pointer (some ⟨g, oo, none⟩)) [6, 7, 10] rfl rfl (by kernel_rfl) (by kernel_rfl) (by kernel_rfl) (by kernel_rfl) (by kernel_rfl) (fun _ _ _ h => h) (by rfl) (fun _ _ => by go_simp) hS ?_
                  simp only [Act.put, List.setIfInBounds_toArray, List.set_cons_zero, List.set_cons_succ]
                  refine wpAnyL_take 6 46 (.pointer (some ⟨g, oo, none⟩)) [7, 10] rfl rfl (by kernel_rfl) (by kernel_rfl) (by kernel_rfl) (by kernel_rfl) (by kernel_rfl) (fun _ _ _ h => h) (by rfl) (fun _ _ => by go_simp) hS ?_
                  simp only [Act.put, List.setIfInBounds_toArray, List.set_cons_zero, List.set_cons_succ]
                  refine wpAnyL_take 7 47 (.string xk) [10] rfl rfl (by kernel_rfl) (by kernel_rfl) (by kernel_rfl) (by kernel_rfl) (by kernel_rfl) (fun _ _ _ h => h) (by rfl) (fun G hG => by obtain ⟨e0, e1⟩ := unhide HCL G hG; go_simp) hS ?_
                  simp only [Act.put, List.setIfInBounds_toArray, List.set_cons_zero, List.set_cons_succ]
                  refine wpAnyL_take 8 48 (.pointer (some ⟨N, 0, none⟩)) [9, 10] rfl rfl (by kernel_rfl) (by kernel_rfl) (by kernel_rfl) (by kernel_rfl) (by kernel_rfl) (fun _ _ _ h => h) (by rfl) (fun _ _ => by go_simp) hS ?_
                  simp only [Act.put, List.setIfInBounds_toArray, List.set_cons_zero, List.set_cons_succ]
                  refine wpAnyL_take 9 49 (.string ek) [10] rfl rfl (by kernel_rfl) (by kernel_rfl) (by kernel_rfl) (by kernel_rfl) (by kernel_rfl) (fun _ _ _ h => h) (by rfl) (fun G hG => by obtain ⟨e0, e1⟩ := unhide HBX G hG; go_simp) hS ?_
                  simp only [Act.put, List.setIfInBounds_toArray, List.set_cons_zero, List.set_cons_succ]
                  refine wpAnyL_take 10 50 (.bool true) [] rfl rfl (by kernel_rfl) (by kernel_rfl) (by kernel_rfl) (by kernel_rfl) (by kernel_rfl) (fun _ _ _ h => h) (by rfl) (fun _ _ => by go_simp) hS ?_
                  simp only [Act.put, List.setIfInBounds_toArray, List.set_cons_zero, List.set_cons_succ]
                  refine wpAnyL_one (i := 11) (by kernel_rfl) rfl (by rfl) fun K hK => ?_
                  refine wp_val (.bool true) (by go_simp) (some 51) (by rfl) ?_
                  refine hK _ _ (fun _ => hS) ?_
                  clear hK K
                  simp only [Act.put, List.setIfInBounds_toArray, List.set_cons_zero, List.set_cons_succ]
                  refine wpAnyL_done (by kernel_rfl) ?_ _
                  have HIY1 := hide hS
                  clear hS
                  obtain ⟨c1Y1, c2Y1⟩ := unhide HCL Y1 (unhide HIY1)
                  obtain ⟨b1Y1, b2Y1⟩ := unhide HBX Y1 (unhide HIY1)
                  have HO5' : Hid (RE.Own (Y1.alloc (.cells #[.string ek, .string es] 43)) W1.heap.size (acc) xo cc) := (unhide HOY1).below ((Below.refl _ _).alloc (Nat.le_refl _) _)
                  have HA5' : Hid (RE.At (Y1.alloc (.cells #[.string ek, .string es] 43)) [(ek, es)] (some ⟨Y1.heap.size, 0, none⟩) 1) := RE.one Y1 (ek, es) _
                  have HZ5' : Hid (W1.heap.size ≤ (Y1.alloc (.cells #[.string ek, .string es] 43)).heap.size) := Nat.le_trans (unhide HIY1).size (szNew Y1 _)
                  go_wp2_with (first
                    | (at_builtin; (with_reducible refine wpList_putE (by rfl) (.tmp 52) (.tmp 54) (by rfl) (some 55) (by rfl) W1.heap.size (acc) [(ek, es)] m 1 (unhide HML) rfl xo (some ⟨Y1.heap.size, 0, none⟩) cc 1 (by with_unfolding_all rfl) (by with_unfolding_all rfl) (unhide HO5') (unhide HA5') (unhide HLE) (unhide HZ5') ?_); intro x5 n5 c5 V5 HP5; simp only [Act.put, List.setIfInBounds_toArray, List.set_cons_zero, List.set_cons_succ]; have HI5 : Hid (Below W1.heap.size W1 V5) := ((unhide HIY1).alloc (unhide HIY1).size _).trans (unhide HP5).below; have HML5 : Hid (n5 = (acc ++ [(ek, es)]).length) := (unhide HP5).len; have HOO5 := hide (unhide HP5).own)
                    | fail)
                  refine wp_region_last (fun G => Below W1.heap.size W1 G) 7 hmix (belowDrew (unhide HI5)) fun hS => ?_
                  have HOY2 : Hid (RE.Own V5.drew W1.heap.size (acc ++ [(ek, es)]) x5 c5) := (unhide HOO5).below (belowDrew (Below.refl _ _))
                  generalize V5.drew = Y2 at hS HOY2 ⊢
                  refine wpAnyL_take 0 56 (.slice (some ⟨g, o, none⟩) n c) [2, 3, 4] rfl rfl (by kernel_rfl) (by kernel_rfl) (by kernel_rfl) (by kernel_rfl) (by kernel_rfl) (fun _ _ _ h => h) (by rfl) (fun _ _ => by go_simp) hS ?_
                  simp only [Act.put, List.setIfInBounds_toArray, List.set_cons_zero, List.set_cons_succ]
                  refine wpAnyL_take 1 57 (.int .i64 (i : Int)) [2, 3, 4] rfl rfl (by kernel_rfl) (by kernel_rfl) (by kernel_rfl) (by kernel_rfl) (by kernel_rfl) (fun _ _ _ h => h) (by rfl) (fun _ _ => by go_simp) hS ?_
                  simp only [Act.put, List.setIfInBounds_toArray, List.set_cons_zero, List.set_cons_succ]
                  refine wpAnyL_take 2 58 (.pointer (some ⟨g, oo, none⟩)) [3, 4] rfl rfl (by kernel_rfl) (by kernel_rfl) (by kernel_rfl) (by kernel_rfl) (by kernel_rfl) (fun _ _ _ h => h) (by rfl) (fun _ _ => by go_simp) hS ?_
                  simp only [Act.put, List.setIfInBounds_toArray, List.set_cons_zero, List.set_cons_succ]
                  refine wpAnyL_take 3 59 (.pointer (some ⟨g, oo, none⟩)) [4] rfl rfl (by kernel_rfl) (by kernel_rfl) (by kernel_rfl) (by kernel_rfl) (by kernel_rfl) (fun _ _ _ h => h) (by rfl) (fun _ _ => by go_simp) hS ?_
                  simp only [Act.put, List.setIfInBounds_toArray, List.set_cons_zero, List.set_cons_succ]
                  refine wpAnyL_take 4 60 (.string xk) [] rfl rfl (by kernel_rfl) (by kernel_rfl) (by kernel_rfl) (by kernel_rfl) (by kernel_rfl) (fun _ _ _ h => h) (by rfl) (fun G hG => by obtain ⟨e0, e1⟩ := unhide HCL G hG; go_simp) hS ?_
                  simp only [Act.put, List.setIfInBounds_toArray, List.set_cons_zero, List.set_cons_succ]
                  refine wpAnyL_take 5 61 (.pointer (some ⟨N, 0, none⟩)) [6] rfl rfl (by kernel_rfl) (by kernel_rfl) (by kernel_rfl) (by kernel_rfl) (by kernel_rfl) (fun _ _ _ h => h) (by rfl) (fun _ _ => by go_simp) hS ?_
                  simp only [Act.put, List.setIfInBounds_toArray, List.set_cons_zero, List.set_cons_succ]
                  refine wpAnyL_take 6 62 (.string ek) [] rfl rfl (by kernel_rfl) (by kernel_rfl) (by kernel_rfl) (by kernel_rfl) (by kernel_rfl) (fun _ _ _ h => h) (by rfl) (fun G hG => by obtain ⟨e0, e1⟩ := unhide HBX G hG; go_simp) hS ?_
                  simp only [Act.put, List.setIfInBounds_toArray, List.set_cons_zero, List.set_cons_succ]
                  refine wpAnyL_one (i := 7) (by kernel_rfl) rfl (by rfl) fun K hK => ?_
                  refine wp_val (.bool true) (by go_simp) (some 63) (by rfl) ?_
                  refine hK _ _ (fun _ => hS) ?_
                  clear hK K
                  simp only [Act.put, List.setIfInBounds_toArray, List.set_cons_zero, List.set_cons_succ]
                  refine wpAnyL_done (by kernel_rfl) ?_ _
                  have HIY2 := hide hS
                  clear hS
                  obtain ⟨c1Y2, c2Y2⟩ := unhide HCL Y2 (unhide HIY2)
                  obtain ⟨b1Y2, b2Y2⟩ := unhide HBX Y2 (unhide HIY2)
                  have HO6' : Hid (RE.Own (Y2.alloc (.cells #[.string xk, .string xs] 43)) W1.heap.size (acc ++ [(ek, es)]) x5 c5) := (unhide HOY2).below ((Below.refl _ _).alloc (Nat.le_refl _) _)
                  have HA6' : Hid (RE.At (Y2.alloc (.cells #[.string xk, .string xs] 43)) [(xk, xs)] (some ⟨Y2.heap.size, 0, none⟩) 1) := RE.one Y2 (xk, xs) _
                  have HZ6' : Hid (W1.heap.size ≤ (Y2.alloc (.cells #[.string xk, .string xs] 43)).heap.size) := Nat.le_trans (unhide HIY2).size (szNew Y2 _)
                  go_wp2_with (first
                    | (at_builtin; (with_reducible refine wpList_putE (by rfl) (.tmp 64) (.tmp 69) (by rfl) (some 70) (by rfl) W1.heap.size (acc ++ [(ek, es)]) [(xk, xs)] n5 1 (unhide HML5) rfl x5 (some ⟨Y2.heap.size, 0, none⟩) c5 1 (by with_unfolding_all rfl) (by with_unfolding_all rfl) (unhide HO6') (unhide HA6') (unhide HLY) (unhide HZ6') ?_); intro x6 n6 c6 V6 HP6; simp only [Act.put, List.setIfInBounds_toArray, List.set_cons_zero, List.set_cons_succ]; have HI6 : Hid (Below W1.heap.size W1 V6) := ((unhide HIY2).alloc (unhide HIY2).size _).trans (unhide HP6).below; have HML6 : Hid (n6 = (acc ++ [(ek, es)] ++ [(xk, xs)]).length) := (unhide HP6).len; have HOO6 := hide (unhide HP6).own)
                    | fail)
                  go_roundw
                  case rel => exact ⟨i + 1, n6, c6, x6, true, (acc ++ [(ek, es)]) ++ [(xk, xs)], by omega, by go_num, rfl, rfl, unhide HN1, unhide HML6, unhide HOO6, unhide HI6⟩
                  case measure => simp [intOf]; omega
            · have HN1 := hide ((unhide HPI).d hil).1
              have h2 : l[i].1 ≠ ek := ((unhide HPI).d hil).2
              generalize l[i] = x at *
              obtain ⟨xk, xs⟩ := x
              have HCL : Hid (∀ G : World, Below W1.heap.size W1 G → G.cell? ⟨g, o + i * 2, none⟩ = some (.string xk) ∧ G.cell? ⟨g, o + i * 2 + 1, none⟩ = some (.string xs)) := HCL
              generalize o + i * 2 = oo at *
              have hq : (xk.toList == ek.toList) = false := by rw [ba_beq]; exact decide_eq_false h2
              clear h2
              have HLX := hide (unhide HLX (xk, xs))
              go_wp2_with fail
              refine wp_region_last (fun G => Below W1.heap.size W1 G) 11 hmix (belowDrew (unhide HI)) fun hS => ?_
              have HOY1 : Hid (RE.Own wr.drew W1.heap.size (acc) xo cc) := (unhide HO).below (belowDrew (Below.refl _ _))
              generalize wr.drew = Y1 at hS HOY1 ⊢
              refine wpAnyL_take 0 40 (.bool true) [1, 2] rfl rfl (by kernel_rfl) (by kernel_rfl) (by kernel_rfl) (by kernel_rfl) (by kernel_rfl) (fun _ _ _ h => h) (by rfl) (fun _ _ => by go_simp) hS ?_
              simp only [Act.put, List.setIfInBounds_toArray, List.set_cons_zero, List.set_cons_succ]
              refine wpAnyL_take 1 41 (.bool false) [2] rfl rfl (by kernel_rfl) (by kernel_rfl) (by kernel_rfl) (by kernel_rfl) (by kernel_rfl) (fun _ _ _ h => h) (by rfl) (fun _ _ => by go_simp) hS ?_
              simp only [Act.put, List.setIfInBounds_toArray, List.set_cons_zero, List.set_cons_succ]
              refine wpAnyL_take 2 42 (.bool false) [] rfl rfl (by kernel_rfl) (by kernel_rfl) (by kernel_rfl) (by kernel_rfl) (by kernel_rfl) (fun _ _ _ h => h) (by rfl) (fun _ _ => by go_simp) hS ?_
              simp only [Act.put, List.setIfInBounds_toArray, List.set_cons_zero, List.set_cons_succ]
              refine wpAnyL_skip 3 43 [5, 6, 7, 10] rfl rfl (by kernel_rfl) (by kernel_rfl) (by kernel_rfl) (by kernel_rfl) (by kernel_rfl) (fun _ _ _ h => h) (by rfl) hS ?_
              simp only [Act.put, List.setIfInBounds_toArray, List.set_cons_zero, List.set_cons_succ]
              refine wpAnyL_skip 4 44 [5, 6, 7, 10] rfl rfl (by kernel_rfl) (by kernel_rfl) (by kernel_rfl) (by kernel_rfl) (by kernel_rfl) (fun _ _ _ h => h) (by rfl) hS ?_
              simp only [Act.put, List.setIfInBounds_toArray, List.set_cons_zero, List.set_cons_succ]
              refine wpAnyL_skip 5 45 [6, 7, 10] rfl rfl (by kernel_rfl) (by kernel_rfl) (by kernel_rfl) (by kernel_rfl) (by kernel_rfl) (fun _ _ _ h => h) (by rfl) hS ?_
              simp only [Act.put, List.setIfInBounds_toArray, List.set_cons_zero, List.set_cons_succ]
              refine wpAnyL_skip 6 46 [7, 10] rfl rfl (by kernel_rfl) (by kernel_rfl) (by kernel_rfl) (by kernel_rfl) (by kernel_rfl) (fun _ _ _ h => h) (by rfl) hS ?_
              simp only [Act.put, List.setIfInBounds_toArray, List.set_cons_zero, List.set_cons_succ]
              refine wpAnyL_skip 7 47 [10] rfl rfl (by kernel_rfl) (by kernel_rfl) (by kernel_rfl) (by kernel_rfl) (by kernel_rfl) (fun _ _ _ h => h) (by rfl) hS ?_
              simp only [Act.put, List.setIfInBounds_toArray, List.set_cons_zero, List.set_cons_succ]
              refine wpAnyL_skip 8 48 [9, 10] rfl rfl (by kernel_rfl) (by kernel_rfl) (by kernel_rfl) (by kernel_rfl) (by kernel_rfl) (fun _ _ _ h => h) (by rfl) hS ?_
              simp only [Act.put, List.setIfInBounds_toArray, List.set_cons_zero, List.set_cons_succ]
              refine wpAnyL_skip 9 49 [10] rfl rfl (by kernel_rfl) (by kernel_rfl) (by kernel_rfl) (by kernel_rfl) (by kernel_rfl) (fun _ _ _ h => h) (by rfl) hS ?_
              simp only [Act.put, List.setIfInBounds_toArray, List.set_cons_zero, List.set_cons_succ]
              refine wpAnyL_skip 10 50 [] rfl rfl (by kernel_rfl) (by kernel_rfl) (by kernel_rfl) (by kernel_rfl) (by kernel_rfl) (fun _ _ _ h => h) (by rfl) hS ?_
              simp only [Act.put, List.setIfInBounds_toArray, List.set_cons_zero, List.set_cons_succ]
              refine wpAnyL_one (i := 11) (by kernel_rfl) rfl (by rfl) fun K hK => ?_
              refine wp_val (.bool false) (by go_simp) (some 51) (by rfl) ?_
              refine hK _ _ (fun _ => hS) ?_
              clear hK K
              simp only [Act.put, List.setIfInBounds_toArray, List.set_cons_zero, List.set_cons_succ]
              refine wpAnyL_done (by kernel_rfl) ?_ _
              have HIY1 := hide hS
              clear hS
              obtain ⟨c1Y1, c2Y1⟩ := unhide HCL Y1 (unhide HIY1)
              obtain ⟨b1Y1, b2Y1⟩ := unhide HBX Y1 (unhide HIY1)
              go_wp2_with fail
              refine wp_region_last (fun G => Below W1.heap.size W1 G) 7 hmix (belowDrew (unhide HIY1)) fun hS => ?_
              have HOY2 : Hid (RE.Own Y1.drew W1.heap.size (acc) xo cc) := (unhide HOY1).below (belowDrew (Below.refl _ _))
              generalize Y1.drew = Y2 at hS HOY2 ⊢
              refine wpAnyL_take 0 56 (.slice (some ⟨g, o, none⟩) n c) [2, 3, 4] rfl rfl (by kernel_rfl) (by kernel_rfl) (by kernel_rfl) (by kernel_rfl) (by kernel_rfl) (fun _ _ _ h => h) (by rfl) (fun _ _ => by go_simp) hS ?_
              simp only [Act.put, List.setIfInBounds_toArray, List.set_cons_zero, List.set_cons_succ]
              refine wpAnyL_take 1 57 (.int .i64 (i : Int)) [2, 3, 4] rfl rfl (by kernel_rfl) (by kernel_rfl) (by kernel_rfl) (by kernel_rfl) (by kernel_rfl) (fun _ _ _ h => h) (by rfl) (fun _ _ => by go_simp) hS ?_
              simp only [Act.put, List.setIfInBounds_toArray, List.set_cons_zero, List.set_cons_succ]
              refine wpAnyL_take 2 58 (.pointer (some ⟨g, oo, none⟩)) [3, 4] rfl rfl (by kernel_rfl) (by kernel_rfl) (by kernel_rfl) (by kernel_rfl) (by kernel_rfl) (fun _ _ _ h => h) (by rfl) (fun _ _ => by go_simp) hS ?_
              simp only [Act.put, List.setIfInBounds_toArray, List.set_cons_zero, List.set_cons_succ]
              refine wpAnyL_take 3 59 (.pointer (some ⟨g, oo, none⟩)) [4] rfl rfl (by kernel_rfl) (by kernel_rfl) (by kernel_rfl) (by kernel_rfl) (by kernel_rfl) (fun _ _ _ h => h) (by rfl) (fun _ _ => by go_simp) hS ?_
              simp only [Act.put, List.setIfInBounds_toArray, List.set_cons_zero, List.set_cons_succ]
              refine wpAnyL_take 4 60 (.string xk) [] rfl rfl (by kernel_rfl) (by kernel_rfl) (by kernel_rfl) (by kernel_rfl) (by kernel_rfl) (fun _ _ _ h => h) (by rfl) (fun G hG => by obtain ⟨e0, e1⟩ := unhide HCL G hG; go_simp) hS ?_
              simp only [Act.put, List.setIfInBounds_toArray, List.set_cons_zero, List.set_cons_succ]
              refine wpAnyL_take 5 61 (.pointer (some ⟨N, 0, none⟩)) [6] rfl rfl (by kernel_rfl) (by kernel_rfl) (by kernel_rfl) (by kernel_rfl) (by kernel_rfl) (fun _ _ _ h => h) (by rfl) (fun _ _ => by go_simp) hS ?_
              simp only [Act.put, List.setIfInBounds_toArray, List.set_cons_zero, List.set_cons_succ]
              refine wpAnyL_take 6 62 (.string ek) [] rfl rfl (by kernel_rfl) (by kernel_rfl) (by kernel_rfl) (by kernel_rfl) (by kernel_rfl) (fun _ _ _ h => h) (by rfl) (fun G hG => by obtain ⟨e0, e1⟩ := unhide HBX G hG; go_simp) hS ?_
              simp only [Act.put, List.setIfInBounds_toArray, List.set_cons_zero, List.set_cons_succ]
              refine wpAnyL_one (i := 7) (by kernel_rfl) rfl (by rfl) fun K hK => ?_
              refine wp_val (.bool true) (by go_simp) (some 63) (by rfl) ?_
              refine hK _ _ (fun _ => hS) ?_
              clear hK K
              simp only [Act.put, List.setIfInBounds_toArray, List.set_cons_zero, List.set_cons_succ]
              refine wpAnyL_done (by kernel_rfl) ?_ _
              have HIY2 := hide hS
              clear hS
              obtain ⟨c1Y2, c2Y2⟩ := unhide HCL Y2 (unhide HIY2)
              obtain ⟨b1Y2, b2Y2⟩ := unhide HBX Y2 (unhide HIY2)
              have HO4' : Hid (RE.Own (Y2.alloc (.cells #[.string xk, .string xs] 43)) W1.heap.size (acc) xo cc) := (unhide HOY2).below ((Below.refl _ _).alloc (Nat.le_refl _) _)
              have HA4' : Hid (RE.At (Y2.alloc (.cells #[.string xk, .string xs] 43)) [(xk, xs)] (some ⟨Y2.heap.size, 0, none⟩) 1) := RE.one Y2 (xk, xs) _
              have HZ4' : Hid (W1.heap.size ≤ (Y2.alloc (.cells #[.string xk, .string xs] 43)).heap.size) := Nat.le_trans (unhide HIY2).size (szNew Y2 _)
              go_wp2_with (first
                | (at_builtin; (with_reducible refine wpList_putE (by rfl) (.tmp 64) (.tmp 69) (by rfl) (some 70) (by rfl) W1.heap.size (acc) [(xk, xs)] m 1 (unhide HML) rfl xo (some ⟨Y2.heap.size, 0, none⟩) cc 1 (by with_unfolding_all rfl) (by with_unfolding_all rfl) (unhide HO4') (unhide HA4') (unhide HLX) (unhide HZ4') ?_); intro x4 n4 c4 V4 HP4; simp only [Act.put, List.setIfInBounds_toArray, List.set_cons_zero, List.set_cons_succ]; have HI4 : Hid (Below W1.heap.size W1 V4) := ((unhide HIY2).alloc (unhide HIY2).size _).trans (unhide HP4).below; have HML4 : Hid (n4 = (acc ++ [(xk, xs)]).length) := (unhide HP4).len; have HOO4 := hide (unhide HP4).own)
                | fail)
              go_roundw
              case rel => exact ⟨i + 1, n4, c4, x4, true, acc ++ [(xk, xs)], by omega, by go_num, rfl, rfl, unhide HN1, unhide HML4, unhide HOO4, unhide HI4⟩
              case measure => simp [intOf]; omega
          · obtain rfl : i = n := by omega
            have hki : ¬ (i : Int) < (i : Int) := by omega
            have HF := hide ((unhide HPI).fin (unhide HRN))
            cases pt
            · obtain ⟨b1, b2⟩ := unhide HBX wr (unhide HI)
              have HO7' : Hid (RE.Own (wr.alloc (.cells #[.string ek, .string es] 43)) W1.heap.size (acc) xo cc) := (unhide HO).below ((Below.refl _ _).alloc (Nat.le_refl _) _)
              have HA7' : Hid (RE.At (wr.alloc (.cells #[.string ek, .string es] 43)) [(ek, es)] (some ⟨wr.heap.size, 0, none⟩) 1) := RE.one wr (ek, es) _
              have HZ7' : Hid (W1.heap.size ≤ (wr.alloc (.cells #[.string ek, .string es] 43)).heap.size) := Nat.le_trans (unhide HI).size (szNew wr _)
              go_wp2_with (first
                | (at_builtin; (with_reducible refine wpList_putE (by rfl) (.tmp 73) (.tmp 75) (by rfl) (some 76) (by rfl) W1.heap.size (acc) [(ek, es)] m 1 (unhide HML) rfl xo (some ⟨wr.heap.size, 0, none⟩) cc 1 (by with_unfolding_all rfl) (by with_unfolding_all rfl) (unhide HO7') (unhide HA7') (unhide HLE) (unhide HZ7') ?_); intro x7 n7 c7 V7 HP7; simp only [Act.put, List.setIfInBounds_toArray, List.set_cons_zero, List.set_cons_succ]; have HI7 : Hid (Below W1.heap.size W1 V7) := ((unhide HI).alloc (unhide HI).size _).trans (unhide HP7).below; have HML7 : Hid (n7 = (acc ++ [(ek, es)]).length) := (unhide HP7).len; have HOO7 := hide (unhide HP7).own)
                | fail)
              go_ret2
              exact ⟨x7, n7, c7, rfl, by rw [← show acc ++ [(ek, es)] = _ from unhide HF]; exact unhide HML7, by rw [← show acc ++ [(ek, es)] = _ from unhide HF]; exact (unhide HOO7).down (unhide HWL), Below.step (unhide HU1) (unhide HI7)⟩
            · go_wp2
              go_ret2
              exact ⟨xo, m, cc, rfl, by rw [← show acc = _ from unhide HF]; exact unhide HML, by rw [← show acc = _ from unhide HF]; exact (unhide HO).down (unhide HWL), Below.step (unhide HU1) (unhide HI)⟩
    · rw [Bool.not_eq_true] at h2
      rw [h2] at HL2
      rw [putV_no2 h2] at hv
      cases hv
      clear h1 h2 h
      go_enter Try.func32, Try.ntmps32
      go_wp2_with (first
        | ((with_reducible refine wpList_box_en (by rfl) (.tmp 1) (by rfl) (some 3) (by rfl) N (unhide HN) ek es (by with_unfolding_all rfl) ?_); intro W1 HX1 HB1 HS1; simp only [Act.put, List.setIfInBounds_toArray, List.set_cons_zero, List.set_cons_succ]; have HU1 : Hid (Below u.heap.size u W1) := unhide HNU _ (unhide HB1); have HL1 : Hid (∀ G : World, Below W1.heap.size W1 G → Calls Try.prog 50 #[.slice ao n c] G fun e u' => e = .returned (.bool true) ∧ Below G.heap.size G u') := fun G hG => unhide HQ1 G (Below.step (unhide HU1) hG))
        | fail)
      clear HS1
      refine wp_region_last (fun G => Below W1.heap.size W1 G) 24 hmix (belowDrew (Below.refl _ _)) fun hS => ?_
      generalize W1.drew = X0 at hS ⊢
      refine wpAnyL_take 0 9 (.slice ao n c) [1, 3, 6, 9] rfl rfl (by kernel_rfl) (by kernel_rfl) (by kernel_rfl) (by kernel_rfl) (by kernel_rfl) (fun _ _ _ h => h) (by rfl) (fun _ _ => by go_simp) hS ?_
      simp only [Act.put, List.setIfInBounds_toArray, List.set_cons_zero, List.set_cons_succ]
      refine wpAnyL_one (i := 1) (by kernel_rfl) rfl (by rfl) fun K hK => ?_
      refine wp_call_fn 50 _ _ (by rfl) #[.slice ao n c] (by with_unfolding_all rfl) entQL (some 10) (by rfl) _ (asV (unhide HL1 X0 hS)) ?_
      rintro _ X1 ⟨rfl, hb⟩
      have HS1 : Hid (Below W1.heap.size W1 X1) := Below.step hS hb
      clear hb hS
      refine hK _ _ (fun _ => unhide HS1) ?_
      clear hK K
      simp only [Act.put, List.setIfInBounds_toArray, List.set_cons_zero, List.set_cons_succ]
      refine wpAnyL_take 2 11 (.bool false) [3, 6, 9] rfl rfl (by kernel_rfl) (by kernel_rfl) (by kernel_rfl) (by kernel_rfl) (by kernel_rfl) (fun _ _ _ h => h) (by rfl) (fun _ _ => by go_simp) (unhide HS1) ?_
      simp only [Act.put, List.setIfInBounds_toArray, List.set_cons_zero, List.set_cons_succ]
      refine wpAnyL_take 3 12 (.bool false) [6, 9] rfl rfl (by kernel_rfl) (by kernel_rfl) (by kernel_rfl) (by kernel_rfl) (by kernel_rfl) (fun _ _ _ h => h) (by rfl) (fun _ _ => by go_simp) (unhide HS1) ?_
      simp only [Act.put, List.setIfInBounds_toArray, List.set_cons_zero, List.set_cons_succ]
      refine wpAnyL_take 4 13 (.agg #[.string ek, .string es]) [5, 6, 9] rfl rfl (by kernel_rfl) (by kernel_rfl) (by kernel_rfl) (by kernel_rfl) (by kernel_rfl) (fun _ _ _ h => h) (by rfl) (fun G hG => by obtain ⟨e0, e1⟩ := box2 (box_below (unhide HX1) hG); go_simp) (unhide HS1) ?_
      simp only [Act.put, List.setIfInBounds_toArray, List.set_cons_zero, List.set_cons_succ]
      refine wpAnyL_one (i := 5) (by kernel_rfl) rfl (by rfl) fun K hK => ?_
      refine wp_buildTo (by rfl) (.slice (some ⟨X1.heap.size, 0, none⟩) 1 1) (X1.alloc (.cells #[.string ek, .string es] 43)) (by simp only [List.map_toArray, List.map_cons, List.map_nil]; exact bsE X1 ek es) (some 14) (by rfl) ?_
      have HS2 : Hid (Below W1.heap.size W1 (X1.alloc (.cells #[.string ek, .string es] 43))) := (unhide HS1).alloc (unhide HS1).size _
      have HE2 : Hid (El (X1.alloc (.cells #[.string ek, .string es] 43)) [(ek, es)] (some ⟨X1.heap.size, 0, none⟩) 1 1) := El.one X1 (ek, es) _
      refine hK _ _ (fun _ => unhide HS2) ?_
      clear hK K
      simp only [Act.put, List.setIfInBounds_toArray, List.set_cons_zero, List.set_cons_succ]
      generalize X1.alloc (.cells #[.string ek, .string es] 43) = X2 at HS2 HE2 ⊢
      clear HS1
      refine wpAnyL_one (i := 6) (by kernel_rfl) rfl (by rfl) fun K hK => ?_
      refine wp_call_fn 50 _ _ (by rfl) #[.slice (some ⟨X1.heap.size, 0, none⟩) 1 1] (by with_unfolding_all rfl) entQL (some 15) (by rfl) _ (asV (unhide HL2 X2 _ (unhide HE2))) ?_
      rintro _ X3 ⟨rfl, hb⟩
      have HS3 : Hid (Below W1.heap.size W1 X3) := Below.step (unhide HS2) hb
      clear hb HS2 HE2
      refine hK _ _ (fun _ => unhide HS3) ?_
      clear hK K
      simp only [Act.put, List.setIfInBounds_toArray, List.set_cons_zero, List.set_cons_succ]
      refine wpAnyL_take 7 16 (.bool true) [8, 9] rfl rfl (by kernel_rfl) (by kernel_rfl) (by kernel_rfl) (by kernel_rfl) (by kernel_rfl) (fun _ _ _ h => h) (by rfl) (fun _ _ => by go_simp) (unhide HS3) ?_
      simp only [Act.put, List.setIfInBounds_toArray, List.set_cons_zero, List.set_cons_succ]
      refine wpAnyL_take 8 17 (.bool true) [9] rfl rfl (by kernel_rfl) (by kernel_rfl) (by kernel_rfl) (by kernel_rfl) (by kernel_rfl) (fun _ _ _ h => h) (by rfl) (fun _ _ => by go_simp) (unhide HS3) ?_
      simp only [Act.put, List.setIfInBounds_toArray, List.set_cons_zero, List.set_cons_succ]
      refine wpAnyL_take 9 18 (.bool true) [] rfl rfl (by kernel_rfl) (by kernel_rfl) (by kernel_rfl) (by kernel_rfl) (by kernel_rfl) (fun _ _ _ h => h) (by rfl) (fun _ _ => by go_simp) (unhide HS3) ?_
      simp only [Act.put, List.setIfInBounds_toArray, List.set_cons_zero, List.set_cons_succ]
      refine wpAnyL_skip 10 19 [11, 12, 13, 23] rfl rfl (by kernel_rfl) (by kernel_rfl) (by kernel_rfl) (by kernel_rfl) (by kernel_rfl) (fun _ _ _ h => h) (by rfl) (unhide HS3) ?_
      simp only [Act.put, List.setIfInBounds_toArray, List.set_cons_zero, List.set_cons_succ]
      refine wpAnyL_skip 11 20 [12, 13, 23] rfl rfl (by kernel_rfl) (by kernel_rfl) (by kernel_rfl) (by kernel_rfl) (by kernel_rfl) (fun _ _ _ h => h) (by rfl) (unhide HS3) ?_
      simp only [Act.put, List.setIfInBounds_toArray, List.set_cons_zero, List.set_cons_succ]
      refine wpAnyL_skip 12 21 [13, 23] rfl rfl (by kernel_rfl) (by kernel_rfl) (by kernel_rfl) (by kernel_rfl) (by kernel_rfl) (fun _ _ _ h => h) (by rfl) (unhide HS3) ?_
      simp only [Act.put, List.setIfInBounds_toArray, List.set_cons_zero, List.set_cons_succ]
      refine wpAnyL_skip 13 22 [23] rfl rfl (by kernel_rfl) (by kernel_rfl) (by kernel_rfl) (by kernel_rfl) (by kernel_rfl) (fun _ _ _ h => h) (by rfl) (unhide HS3) ?_
      simp only [Act.put, List.setIfInBounds_toArray, List.set_cons_zero, List.set_cons_succ]
      refine wpAnyL_skip 14 23 [15, 16, 22, 23] rfl rfl (by kernel_rfl) (by kernel_rfl) (by kernel_rfl) (by kernel_rfl) (by kernel_rfl) (fun _ _ _ h => h) (by rfl) (unhide HS3) ?_
      simp only [Act.put, List.setIfInBounds_toArray, List.set_cons_zero, List.set_cons_succ]
      refine wpAnyL_skip 15 24 [16, 22, 23] rfl rfl (by kernel_rfl) (by kernel_rfl) (by kernel_rfl) (by kernel_rfl) (by kernel_rfl) (fun _ _ _ h => h) (by rfl) (unhide HS3) ?_
      simp only [Act.put, List.setIfInBounds_toArray, List.set_cons_zero, List.set_cons_succ]
      refine wpAnyL_skip 16 25 [22, 23] rfl rfl (by kernel_rfl) (by kernel_rfl) (by kernel_rfl) (by kernel_rfl) (by kernel_rfl) (fun _ _ _ h => h) (by rfl) (unhide HS3) ?_
      simp only [Act.put, List.setIfInBounds_toArray, List.set_cons_zero, List.set_cons_succ]
      refine wpAnyL_skip 17 26 [18, 19, 20, 21, 22, 23] rfl rfl (by kernel_rfl) (by kernel_rfl) (by kernel_rfl) (by kernel_rfl) (by kernel_rfl) (fun _ _ _ h => h) (by rfl) (unhide HS3) ?_
      simp only [Act.put, List.setIfInBounds_toArray, List.set_cons_zero, List.set_cons_succ]
      refine wpAnyL_skip 18 27 [19, 20, 21, 22, 23] rfl rfl (by kernel_rfl) (by kernel_rfl) (by kernel_rfl) (by kernel_rfl) (by kernel_rfl) (fun _ _ _ h => h) (by rfl) (unhide HS3) ?_
      simp only [Act.put, List.setIfInBounds_toArray, List.set_cons_zero, List.set_cons_succ]
      refine wpAnyL_skip 19 28 [20, 21, 22, 23] rfl rfl (by kernel_rfl) (by kernel_rfl) (by kernel_rfl) (by kernel_rfl) (by kernel_rfl) (fun _ _ _ h => h) (by rfl) (unhide HS3) ?_
      simp only [Act.put, List.setIfInBounds_toArray, List.set_cons_zero, List.set_cons_succ]
      refine wpAnyL_skip 20 29 [21, 22, 23] rfl rfl (by kernel_rfl) (by kernel_rfl) (by kernel_rfl) (by kernel_rfl) (by kernel_rfl) (fun _ _ _ h => h) (by rfl) (unhide HS3) ?_
      simp only [Act.put, List.setIfInBounds_toArray, List.set_cons_zero, List.set_cons_succ]
      refine wpAnyL_skip 21 30 [22, 23] rfl rfl (by kernel_rfl) (by kernel_rfl) (by kernel_rfl) (by kernel_rfl) (by kernel_rfl) (fun _ _ _ h => h) (by rfl) (unhide HS3) ?_
      simp only [Act.put, List.setIfInBounds_toArray, List.set_cons_zero, List.set_cons_succ]
      refine wpAnyL_skip 22 31 [23] rfl rfl (by kernel_rfl) (by kernel_rfl) (by kernel_rfl) (by kernel_rfl) (by kernel_rfl) (fun _ _ _ h => h) (by rfl) (unhide HS3) ?_
      simp only [Act.put, List.setIfInBounds_toArray, List.set_cons_zero, List.set_cons_succ]
      refine wpAnyL_skip 23 32 [] rfl rfl (by kernel_rfl) (by kernel_rfl) (by kernel_rfl) (by kernel_rfl) (by kernel_rfl) (fun _ _ _ h => h) (by rfl) (unhide HS3) ?_
      simp only [Act.put, List.setIfInBounds_toArray, List.set_cons_zero, List.set_cons_succ]
      refine wpAnyL_one (i := 24) (by kernel_rfl) rfl (by rfl) fun K hK => ?_
      refine wp_val (.bool true) (by go_simp) (some 33) (by rfl) ?_
      refine hK _ _ (fun _ => unhide HS3) ?_
      clear hK K
      simp only [Act.put, List.setIfInBounds_toArray, List.set_cons_zero, List.set_cons_succ]
      refine wpAnyL_done (by kernel_rfl) ?_ _
      have HSE := HS3
      clear HS3
      go_wp2
      go_ret2
      exact ⟨none, 0, 0, rfl, rfl, Rec.Own.none _ _, Below.step (unhide HU1) (unhide HSE)⟩
  · rw [Bool.not_eq_true] at h1
    rw [h1] at HQ1
    rw [putV_no1 h1] at hv
    cases hv
    clear h1 h
    go_enter Try.func32, Try.ntmps32
    go_wp2_with (first
      | ((with_reducible refine wpList_box_en (by rfl) (.tmp 1) (by rfl) (some 3) (by rfl) N (unhide HN) ek es (by with_unfolding_all rfl) ?_); intro W1 HX1 HB1 HS1; simp only [Act.put, List.setIfInBounds_toArray, List.set_cons_zero, List.set_cons_succ]; have HU1 : Hid (Below u.heap.size u W1) := unhide HNU _ (unhide HB1); have HL1 : Hid (∀ G : World, Below W1.heap.size W1 G → Calls Try.prog 50 #[.slice ao n c] G fun e u' => e = .returned (.bool false) ∧ Below G.heap.size G u') := fun G hG => unhide HQ1 G (Below.step (unhide HU1) hG))
      | fail)
    clear HS1
    refine wp_region_last (fun G => Below W1.heap.size W1 G) 24 hmix (belowDrew (Below.refl _ _)) fun hS => ?_
    generalize W1.drew = X0 at hS ⊢
    refine wpAnyL_take 0 9 (.slice ao n c) [1, 3, 6, 9] rfl rfl (by kernel_rfl) (by kernel_rfl) (by kernel_rfl) (by kernel_rfl) (by kernel_rfl) (fun _ _ _ h => h) (by rfl) (fun _ _ => by go_simp) hS ?_
    simp only [Act.put, List.setIfInBounds_toArray, List.set_cons_zero, List.set_cons_succ]
    refine wpAnyL_one (i := 1) (by kernel_rfl) rfl (by rfl) fun K hK => ?_
    refine wp_call_fn 50 _ _ (by rfl) #[.slice ao n c] (by with_unfolding_all rfl) entQL (some 10) (by rfl) _ (asV (unhide HL1 X0 hS)) ?_
    rintro _ X1 ⟨rfl, hb⟩
    have HS1 : Hid (Below W1.heap.size W1 X1) := Below.step hS hb
    clear hb hS
    refine hK _ _ (fun _ => unhide HS1) ?_
    clear hK K
    simp only [Act.put, List.setIfInBounds_toArray, List.set_cons_zero, List.set_cons_succ]
    refine wpAnyL_take 2 11 (.bool true) [3, 6, 9] rfl rfl (by kernel_rfl) (by kernel_rfl) (by kernel_rfl) (by kernel_rfl) (by kernel_rfl) (fun _ _ _ h => h) (by rfl) (fun _ _ => by go_simp) (unhide HS1) ?_
    simp only [Act.put, List.setIfInBounds_toArray, List.set_cons_zero, List.set_cons_succ]
    refine wpAnyL_take 3 12 (.bool true) [6, 9] rfl rfl (by kernel_rfl) (by kernel_rfl) (by kernel_rfl) (by kernel_rfl) (by kernel_rfl) (fun _ _ _ h => h) (by rfl) (fun _ _ => by go_simp) (unhide HS1) ?_
    simp only [Act.put, List.setIfInBounds_toArray, List.set_cons_zero, List.set_cons_succ]
    refine wpAnyL_skip 4 13 [5, 6, 9] rfl rfl (by kernel_rfl) (by kernel_rfl) (by kernel_rfl) (by kernel_rfl) (by kernel_rfl) (fun _ _ _ h => h) (by rfl) (unhide HS1) ?_
    simp only [Act.put, List.setIfInBounds_toArray, List.set_cons_zero, List.set_cons_succ]
    refine wpAnyL_skip 5 14 [6, 9] rfl rfl (by kernel_rfl) (by kernel_rfl) (by kernel_rfl) (by kernel_rfl) (by kernel_rfl) (fun _ _ _ h => h) (by rfl) (unhide HS1) ?_
    simp only [Act.put, List.setIfInBounds_toArray, List.set_cons_zero, List.set_cons_succ]
    refine wpAnyL_skip 6 15 [9] rfl rfl (by kernel_rfl) (by kernel_rfl) (by kernel_rfl) (by kernel_rfl) (by kernel_rfl) (fun _ _ _ h => h) (by rfl) (unhide HS1) ?_
    simp only [Act.put, List.setIfInBounds_toArray, List.set_cons_zero, List.set_cons_succ]
    refine wpAnyL_skip 7 16 [8, 9] rfl rfl (by kernel_rfl) (by kernel_rfl) (by kernel_rfl) (by kernel_rfl) (by kernel_rfl) (fun _ _ _ h => h) (by rfl) (unhide HS1) ?_
    simp only [Act.put, List.setIfInBounds_toArray, List.set_cons_zero, List.set_cons_succ]
    refine wpAnyL_take 8 17 (.bool true) [9] rfl rfl (by kernel_rfl) (by kernel_rfl) (by kernel_rfl) (by kernel_rfl) (by kernel_rfl) (fun _ _ _ h => h) (by rfl) (fun _ _ => by go_simp) (unhide HS1) ?_
    simp only [Act.put, List.setIfInBounds_toArray, List.set_cons_zero, List.set_cons_succ]
    refine wpAnyL_take 9 18 (.bool true) [] rfl rfl (by kernel_rfl) (by kernel_rfl) (by kernel_rfl) (by kernel_rfl) (by kernel_rfl) (fun _ _ _ h => h) (by rfl) (fun _ _ => by go_simp) (unhide HS1) ?_
    simp only [Act.put, List.setIfInBounds_toArray, List.set_cons_zero, List.set_cons_succ]
    refine wpAnyL_skip 10 19 [11, 12, 13, 23] rfl rfl (by kernel_rfl) (by kernel_rfl) (by kernel_rfl) (by kernel_rfl) (by kernel_rfl) (fun _ _ _ h => h) (by rfl) (unhide HS1) ?_
    simp only [Act.put, List.setIfInBounds_toArray, List.set_cons_zero, List.set_cons_succ]
    refine wpAnyL_skip 11 20 [12, 13, 23] rfl rfl (by kernel_rfl) (by kernel_rfl) (by kernel_rfl) (by kernel_rfl) (by kernel_rfl) (fun _ _ _ h => h) (by rfl) (unhide HS1) ?_
    simp only [Act.put, List.setIfInBounds_toArray, List.set_cons_zero, List.set_cons_succ]
    refine wpAnyL_skip 12 21 [13, 23] rfl rfl (by kernel_rfl) (by kernel_rfl) (by kernel_rfl) (by kernel_rfl) (by kernel_rfl) (fun _ _ _ h => h) (by rfl) (unhide HS1) ?_
    simp only [Act.put, List.setIfInBounds_toArray, List.set_cons_zero, List.set_cons_succ]
    refine wpAnyL_skip 13 22 [23] rfl rfl (by kernel_rfl) (by kernel_rfl) (by kernel_rfl) (by kernel_rfl) (by kernel_rfl) (fun _ _ _ h => h) (by rfl) (unhide HS1) ?_
    simp only [Act.put, List.setIfInBounds_toArray, List.set_cons_zero, List.set_cons_succ]
    refine wpAnyL_skip 14 23 [15, 16, 22, 23] rfl rfl (by kernel_rfl) (by kernel_rfl) (by kernel_rfl) (by kernel_rfl) (by kernel_rfl) (fun _ _ _ h => h) (by rfl) (unhide HS1) ?_
    simp only [Act.put, List.setIfInBounds_toArray, List.set_cons_zero, List.set_cons_succ]
    refine wpAnyL_skip 15 24 [16, 22, 23] rfl rfl (by kernel_rfl) (by kernel_rfl) (by kernel_rfl) (by kernel_rfl) (by kernel_rfl) (fun _ _ _ h => h) (by rfl) (unhide HS1) ?_
    simp only [Act.put, List.setIfInBounds_toArray, List.set_cons_zero, List.set_cons_succ]
    refine wpAnyL_skip 16 25 [22, 23] rfl rfl (by kernel_rfl) (by kernel_rfl) (by kernel_rfl) (by kernel_rfl) (by kernel_rfl) (fun _ _ _ h => h) (by rfl) (unhide HS1) ?_
    simp only [Act.put, List.setIfInBounds_toArray, List.set_cons_zero, List.set_cons_succ]
    refine wpAnyL_skip 17 26 [18, 19, 20, 21, 22, 23] rfl rfl (by kernel_rfl) (by kernel_rfl) (by kernel_rfl) (by kernel_rfl) (by kernel_rfl) (fun _ _ _ h => h) (by rfl) (unhide HS1) ?_
    simp only [Act.put, List.setIfInBounds_toArray, List.set_cons_zero, List.set_cons_succ]
    refine wpAnyL_skip 18 27 [19, 20, 21, 22, 23] rfl rfl (by kernel_rfl) (by kernel_rfl) (by kernel_rfl) (by kernel_rfl) (by kernel_rfl) (fun _ _ _ h => h) (by rfl) (unhide HS1) ?_
    simp only [Act.put, List.setIfInBounds_toArray, List.set_cons_zero, List.set_cons_succ]
    refine wpAnyL_skip 19 28 [20, 21, 22, 23] rfl rfl (by kernel_rfl) (by kernel_rfl) (by kernel_rfl) (by kernel_rfl) (by kernel_rfl) (fun _ _ _ h => h) (by rfl) (unhide HS1) ?_
    simp only [Act.put, List.setIfInBounds_toArray, List.set_cons_zero, List.set_cons_succ]
    refine wpAnyL_skip 20 29 [21, 22, 23] rfl rfl (by kernel_rfl) (by kernel_rfl) (by kernel_rfl) (by kernel_rfl) (by kernel_rfl) (fun _ _ _ h => h) (by rfl) (unhide HS1) ?_
    simp only [Act.put, List.setIfInBounds_toArray, List.set_cons_zero, List.set_cons_succ]
    refine wpAnyL_skip 21 30 [22, 23] rfl rfl (by kernel_rfl) (by kernel_rfl) (by kernel_rfl) (by kernel_rfl) (by kernel_rfl) (fun _ _ _ h => h) (by rfl) (unhide HS1) ?_
    simp only [Act.put, List.setIfInBounds_toArray, List.set_cons_zero, List.set_cons_succ]
    refine wpAnyL_skip 22 31 [23] rfl rfl (by kernel_rfl) (by kernel_rfl) (by kernel_rfl) (by kernel_rfl) (by kernel_rfl) (fun _ _ _ h => h) (by rfl) (unhide HS1) ?_
    simp only [Act.put, List.setIfInBounds_toArray, List.set_cons_zero, List.set_cons_succ]
    refine wpAnyL_skip 23 32 [] rfl rfl (by kernel_rfl) (by kernel_rfl) (by kernel_rfl) (by kernel_rfl) (by kernel_rfl) (fun _ _ _ h => h) (by rfl) (unhide HS1) ?_
    simp only [Act.put, List.setIfInBounds_toArray, List.set_cons_zero, List.set_cons_succ]
    refine wpAnyL_one (i := 24) (by kernel_rfl) rfl (by rfl) fun K hK => ?_
    refine wp_val (.bool true) (by go_simp) (some 33) (by rfl) ?_
    refine hK _ _ (fun _ => unhide HS1) ?_
    clear hK K
    simp only [Act.put, List.setIfInBounds_toArray, List.set_cons_zero, List.set_cons_succ]
    refine wpAnyL_done (by kernel_rfl) ?_ _
    have HSE := HS1
    clear HS1
    go_wp2
    go_ret2
    exact ⟨none, 0, 0, rfl, rfl, Rec.Own.none _ _, Below.step (unhide HU1) (unhide HSE)⟩
end Go.Proofs.Ytbahlfpcbplofaa.S
