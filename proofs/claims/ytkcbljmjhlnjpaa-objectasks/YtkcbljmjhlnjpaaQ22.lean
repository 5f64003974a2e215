/- Put together out of Oi, Zaa. -/
import Derived.Test.YtkcbljmjhlnjpaaQ21
import Derived.Test.YtkcbljmjhlnjpaaQ13
namespace Go.Proofs.Ytkcbljmjhlnjpaa
open Go.RowKit Go.Lib
set_option maxHeartbeats 1000000 in
theorem oMade1 {u W : World} {g : Nat} {k : ByteArray} {s : St} {x : Sv} {n m B : Nat} (hn : n = s.seen.length) (hm : m = s.sibs.length) (hR : W.heap[g]? = some (obRow k x n m)) (ho : OwnT W B s x) (Pg : Nat → Prop) (hf : ∀ q, x.has n m q → q < u.heap.size) (hp : ∀ q, x.has n m q → Pg q) (b : ByteArray) :
    Calls Try.prog 90 (#[.string b] ++ #[.pointer (some ⟨g, 0, none⟩)]) W fun e W' => ∃ y, e = .returned y ∧ ∃ x a b, y = .tuple #[obV k x a b, .int .i64 0] ∧ Tell u W W' ⟨k, s⟩ B Pg x a b := by
  obtain ⟨N, hN⟩ : ∃ N, N = W.heap.size := ⟨_, rfl⟩
  have HN := hide hN
  have HR := hide hR
  have HT : Hid (∀ W', Below N W W' → Tell u W W' ⟨k, s⟩ B Pg x n m) := fun W' hW => ⟨hn, hm, ho.below (by rw [← hN]; exact hW), by rw [← hN]; exact hW, fun q hq => .inl (hf q hq), hp⟩
  clear hN hn hm hR ho hf hp
  show Calls Try.prog 90 #[.string b, .pointer (some ⟨g, 0, none⟩)] W _
  go_enter Try.func90, Try.ntmps90
  go_wp2_with (first
    | ((with_reducible refine wpList_alloc_ob (by rfl) (by rfl) (some 3) (by rfl) N (unhide HN) ?_); intro W1 HX1 HB1 HS1; simp only [Act.put, List.setIfInBounds_toArray, List.set_cons_zero, List.set_cons_succ]; obtain ⟨c0, c1, c2⟩ := ob_cells (box_below (unhide HR) (by rw [← unhide HN]; exact unhide HB1)))
    | ((with_reducible refine wpList_store_ob (by rfl) (.tmp 3) (.tmp 5) (by rfl) N k x n m (by with_unfolding_all rfl) (by with_unfolding_all rfl) _ _ _ _ (unhide HX1) ?_); intro W7 HX7 HE7; simp only [Act.put])
    | fail)
  refine bodyPost_ret (results_cell_tmp rfl _ _ N 33 #[.string k, .slice x.sa n x.sc, .slice x.ba m x.bc] (0, 0) _ rfl (unhide HX7) obUnd rfl obInfo) rfl ?_
  exact ⟨_, rfl, x, n, m, rfl, unhide HT _ (by rw [unhide HE7]; exact belowRow (unhide HB1) (Nat.le_refl _) _)⟩
theorem made_zero {k : ByteArray} {s : St} (h : ckE ⟨k, s⟩ = 0) : madeV k s 0 = (⟨k, s⟩, 0) := by unfold madeV; rw [if_pos ⟨rfl, h⟩]
theorem made_big {k : ByteArray} {s : St} (h : ckE ⟨k, s⟩ ≠ 0) : madeV k s 0 = (Ot.none, ckE ⟨k, s⟩) := by unfold madeV; rw [if_neg (fun q => h q.2), if_pos rfl]
theorem made_no {k : ByteArray} {s : St} {e : Int} (h : e ≠ 0) : madeV k s e = (Ot.none, e) := by unfold madeV; rw [if_neg (fun q => h q.1), if_neg h]
set_option maxRecDepth 100000 in
set_option maxHeartbeats 2000000 in
theorem oMade (k : ByteArray) (s : St) (x : Sv) (n m : Nat) (e : Int) (u : World) (B : Nat) (hn : n = s.seen.length) (hm : m = s.sibs.length) (ho : OwnT u B s x) (hf : FitT s) (hs : e = 0 → SOk s) (J : Ot) (r : Int) (hJ : madeV k s e = (J, r)) :
    Calls Try.prog 51 #[.string k, x.v n m, .int .i64 e] u fun y u' => ∃ x a b, y = .returned (.tuple #[obV J.key x a b, .int .i64 r]) ∧ a = J.st.seen.length ∧ b = J.st.sibs.length ∧ OwnT u' B J.st x ∧ Below u.heap.size u u' := by
  obtain ⟨N, hN⟩ : ∃ N, N = u.heap.size := ⟨_, rfl⟩
  have HN := hide hN
  have HU : Hid (∀ W : World, Below N u W → Below u.heap.size u W) := fun W hW => by rw [← unhide HN]; exact hW
  by_cases he : e = 0
  · subst he
    have HM : Hid (∀ W, Below N u W → W.heap[N + 1 + 1]? = some (obRow k x n m) → Calls Try.prog 47 #[obV k x n m, .func (.func 90) #[] #[.pointer (some ⟨N + 1 + 1, 0, none⟩)]] W fun e u' => ∃ x a b, e = .returned (.tuple #[obV J.key x a b, .int .i64 r]) ∧ a = J.st.seen.length ∧ b = J.st.sibs.length ∧ OwnT u' B J.st x ∧ Below W.heap.size W u' ∧ ∀ g, x.has a b g → g < N) := fun W hW hR => by
      have hb := unhide HU _ hW
      have hsx : Sx W (Ot.mk k s).st x n m := ⟨(ho.below hb).at hf (hs rfl), hn, hm⟩
      have hlt : ∀ q, x.has n m q → q < N := fun q hq => by rw [hN]; rw [hn, hm] at hq; exact (ho.lt hq).2
      by_cases hc : ckE ⟨k, s⟩ = 0
      · rw [made_zero hc] at hJ
        cases hJ
        refine oMayO (o := ⟨k, s⟩) hsx _ _ (ent_lit _ (by kernel_rfl)) _ _ _ _ (fun _ V hV => ?_) (fun hn => absurd hc hn)
        exact oMade1 hn hm (box_below hR hV) ((ho.below hb).below hV) _ (fun q hq => Nat.lt_of_lt_of_le (hlt q hq) (by rw [hN]; exact hb.size)) hlt _
      · rw [made_big hc] at hJ
        cases hJ
        exact oMayO (o := ⟨k, s⟩) hsx _ _ (ent_lit _ (by kernel_rfl)) _ _ _ _ (fun hn => absurd hn hc) (fun _ => ⟨rfl, rfl⟩)
    rw [← hN]
    clear hN hn hm ho hf hs hJ
    go_enter Try.func51, Try.ntmps51
    go_wp2_with (first
      | ((with_reducible refine wpList_box_state (by rfl) (.tmp 1) (by rfl) (some 4) (by rfl) N (unhide HN) x n m (by with_unfolding_all rfl) ?_); intro W1 HX1 HB1 HS1; simp only [Act.put, List.setIfInBounds_toArray, List.set_cons_zero, List.set_cons_succ])
      | ((with_reducible refine wpList_alloc_ob (by rfl) (by rfl) (some 6) (by rfl) (N + 1) (unhide HS1).symm ?_); intro W2 HX2 HB2 HS2; simp only [Act.put, List.setIfInBounds_toArray, List.set_cons_zero, List.set_cons_succ]; have HBU : Hid (Below N u W2) := (unhide HB1).trans ((unhide HB2).mono (Nat.le_succ _)); replace HX1 := hide (((unhide HB2).block N (Nat.lt_succ_self _)).trans (unhide HX1)); clear HB1 HB2; obtain ⟨c0, c1⟩ := st_cells (unhide HX1))
      | ((with_reducible refine wpList_alloc_ob (by rfl) (by rfl) (some 8) (by rfl) (N + 1 + 1) (unhide HS2).symm ?_); intro W3 HX3 HB3 HS3; simp only [Act.put, List.setIfInBounds_toArray, List.set_cons_zero, List.set_cons_succ])
      | ((with_reducible refine wpList_store_ob (by rfl) (.tmp 8) (.tmp 15) (by rfl) (N + 1 + 1) k x n m (by with_unfolding_all rfl) (by with_unfolding_all rfl) _ _ _ _ (unhide HX3) ?_); intro W4 HX4 HE4; simp only [Act.put]; have hb4 : Below (N + 1 + 1) W2 W4 := (by rw [unhide HE4]; exact belowRow (unhide HB3) (Nat.le_refl _) _); replace HX2 := hide ((hb4.block (N + 1) (Nat.lt_succ_self _)).trans (unhide HX2)); replace HBU : Hid (Below N u W4) := (unhide HBU).trans (hb4.mono (by omega)); have HS4 : Hid (W4.heap.size = N + 1 + 1 + 1) := (by rw [unhide HE4, size_setRow]; exact unhide HS3); clear hb4 HE4 HX3 HB3 HS3 c0 c1; obtain ⟨c0, c1, c2⟩ := ob_cells (unhide HX4))
      | (go_at_call 47; refine (unhide HM W4 (unhide HBU) (unhide HX4)).mono ?_; rintro e W5 ⟨x2, a, b, rfl, h1, h2, h3, h4, h5⟩; have HE1 := hide h1; have HE2 := hide h2; have HO5 := hide h3; have HF5 := hide h5; replace HX2 := hide (box_below (unhide HX2) h4); replace HBU : Hid (Below N u W5) := (unhide HBU).trans (h4.mono (by rw [unhide HS4]; omega)); clear h1 h2 h3 h4 h5; simp only [obV])
      | ((with_reducible refine wpList_store_ob (by rfl) (.tmp 6) (.tmp 19) (by rfl) (N + 1) J.key x2 a b (by with_unfolding_all rfl) (by with_unfolding_all rfl) _ _ _ _ (unhide HX2) ?_); intro W7 HX7 HE7; simp only [Act.put])
      | fail)
    refine bodyPost_ret (results_cell_tmp rfl _ _ (N + 1) 33 #[.string J.key, .slice x2.sa a x2.sc, .slice x2.ba b x2.bc] (0, 0) _ rfl (unhide HX7) obUnd rfl obInfo) rfl ?_
    refine ⟨x2, a, b, rfl, unhide HE1, unhide HE2, ?_, by rw [unhide HE7]; exact belowRow (unhide HBU) (by omega) _⟩
    rw [unhide HE7]
    refine (unhide HO5).keep fun g hg => heapRow_other _ _ _ _ ?_
    rw [← unhide HE1, ← unhide HE2] at hg
    have h1 := unhide HF5 g hg
    omega
  · rw [made_no he] at hJ
    cases hJ
    have he' : (e != 0) = true := by simpa using he
    rw [← hN]
    clear hN hn hm ho hf hs he
    go_enter Try.func51, Try.ntmps51
    go_wp2_with (first
      | ((with_reducible refine wpList_box_state (by rfl) (.tmp 1) (by rfl) (some 4) (by rfl) N (unhide HN) x n m (by with_unfolding_all rfl) ?_); intro W1 HX1 HB1 HS1; simp only [Act.put, List.setIfInBounds_toArray, List.set_cons_zero, List.set_cons_succ])
      | ((with_reducible refine wpList_alloc_ob (by rfl) (by rfl) (some 6) (by rfl) (N + 1) (unhide HS1).symm ?_); intro W2 HX2 HB2 HS2; simp only [Act.put, List.setIfInBounds_toArray, List.set_cons_zero, List.set_cons_succ]; have HBU : Hid (Below N u W2) := (unhide HB1).trans ((unhide HB2).mono (Nat.le_succ _)); replace HX1 := hide (((unhide HB2).block N (Nat.lt_succ_self _)).trans (unhide HX1)); clear HB1 HB2; obtain ⟨c0, c1⟩ := st_cells (unhide HX1))
      | ((with_reducible refine wpList_store_ob (by rfl) (.tmp 6) (.tmp 11) (by rfl) (N + 1) ⟨#[]⟩ Sv.none 0 0 (by with_unfolding_all rfl) (by with_unfolding_all rfl) _ _ _ _ (unhide HX2) ?_); intro W7 HX7 HE7; simp only [Act.put])
      | fail)
    refine bodyPost_ret (results_cell_tmp rfl _ _ (N + 1) 33 #[.string ⟨#[]⟩, .slice none 0 0, .slice none 0 0] (0, 0) _ rfl (unhide HX7) obUnd rfl obInfo) rfl ?_
    exact ⟨Sv.none, 0, 0, rfl, rfl, rfl, OwnT.none _ _, by rw [unhide HE7]; exact belowRow (unhide HBU) (by omega) _⟩
/-- what the inner closure of Merge answers -/
noncomputable def mrg0 (a b : Ot) : Ot × Int := open Classical in if a.key = b.key then madeV a.key (joinV a.st b.st).1 (joinV a.st b.st).2 else (Ot.none, 1)
theorem join_fit {a b : St} (ha : FitT a) (hb : FitT b) : FitT (joinV a b).1 := by
  by_cases hab : SOk a ∧ SOk b
  · rcases join_cases hab.1 hab.2 with h | h
    · rw [h.1]; exact fit_jn ha hb
    · rw [h]; exact fit_none
  · rw [join_not hab]; exact fit_none
theorem join_sok {a b : St} : SOk (joinV a b).1 := by
  by_cases hab : SOk a ∧ SOk b
  · rcases join_cases hab.1 hab.2 with h | h
    · rw [h.1]; exact h.2
    · rw [h]; exact none_ok
  · rw [join_not hab]; exact none_ok
set_option maxRecDepth 100000 in
set_option maxHeartbeats 2000000 in
theorem oMerge2 {u : World} {ga gb : Nat} {a b : Ot} {va vb : Sv} {n m n' m' : Nat} (ha : Lo u ga a va n m) (hb : Lo u gb b vb n' m') (t : ByteArray) (J : Ot) (r : Int) (hJ : mrg0 a b = (J, r)) :
    Calls Try.prog 49 (#[.string t] ++ #[.pointer (some ⟨ga, 0, none⟩), .pointer (some ⟨gb, 0, none⟩)]) u fun y u' => ∃ x k l, y = .returned (.tuple #[obV J.key x k l, .int .i64 r]) ∧ k = J.st.seen.length ∧ l = J.st.sibs.length ∧ OwnT u' u.heap.size J.st x ∧ Below u.heap.size u u' := by
  obtain ⟨N, hN⟩ : ∃ N, N = u.heap.size := ⟨_, rfl⟩
  have HN := hide hN
  have HU : Hid (∀ W : World, Below N u W → Below u.heap.size u W) := fun W hW => by rw [← unhide HN]; exact hW
  have HLA := hide ha
  have HLB := hide hb
  show Calls Try.prog 49 #[.string t, .pointer (some ⟨ga, 0, none⟩), .pointer (some ⟨gb, 0, none⟩)] u _
  unfold mrg0 at hJ
  by_cases hk : a.key = b.key
  · rw [if_pos hk] at hJ
    have hq : (a.key.toList == b.key.toList) = true := by rw [hk]; simp
    have HFJ := hide (join_fit ha.toSx.sat.fit hb.toSx.sat.fit)
    have HSJ : Hid ((joinV a.st b.st).2 = 0 → SOk (joinV a.st b.st).1) := fun _ => join_sok
    have HJN : Hid (∀ W, Below N u W → Calls Try.prog 50 #[va.v n m, vb.v n' m'] W fun e u' => ∃ x k l, e = .returned (.tuple #[Sv.v x k l, .int .i64 (joinV a.st b.st).2]) ∧ k = (joinV a.st b.st).1.seen.length ∧ l = (joinV a.st b.st).1.sibs.length ∧ OwnT u' W.heap.size (joinV a.st b.st).1 x ∧ Below W.heap.size W u') := fun W hW => by
      rw [ha.toSx.en, ha.toSx.em, hb.toSx.en, hb.toSx.em]
      exact dJoin a.st b.st va vb W (ha.toSx.sat.below (unhide HU _ hW)) (hb.toSx.sat.below (unhide HU _ hW)) _ _ rfl
    generalize (joinV a.st b.st).1 = S at *
    generalize (joinV a.st b.st).2 = re at *
    have HMJ := hide hJ
    rw [← hN]
    clear hN hk ha hb hJ
    go_enter Try.func49, Try.ntmps49
    go_wp2_with (first
      | ((with_reducible refine wpList_alloc_ob (by rfl) (by rfl) (some 4) (by rfl) N (unhide HN) ?_); intro W1 HX1 HB1 HS1; simp only [Act.put, List.setIfInBounds_toArray, List.set_cons_zero, List.set_cons_succ]; obtain ⟨c0, c1, c2⟩ := ((unhide HLA).below (unhide HU _ (unhide HB1))).cells; obtain ⟨d0, d1, d2⟩ := ((unhide HLB).below (unhide HU _ (unhide HB1))).cells)
      | (go_at_call 50; refine (unhide HJN W1 (unhide HB1)).mono ?_; rintro e W2 ⟨x1, k1, l1, rfl, h1, h2, h3, h4⟩; clear c0 c1 c2 d0 d1 d2; have HK1 := hide h1; have HK2 := hide h2; have HOJ := hide h3; replace HX1 := hide (box_below (unhide HX1) h4); have HBU : Hid (Below N u W2) := (unhide HB1).trans (h4.mono (by rw [unhide HS1]; omega)); have HS2 : Hid (N + 1 ≤ W2.heap.size) := (by have := h4.size; rw [unhide HS1] at this; exact this); clear h1 h2 h3 h4; obtain ⟨M1, hM1⟩ : ∃ M1, M1 = W2.heap.size := ⟨_, rfl⟩; have HM1 := hide hM1; clear hM1)
      | ((with_reducible refine wpList_alloc_state (by rfl) (by rfl) (some 6) (by rfl) M1 (unhide HM1) ?_); intro W3 HX3 HB3 HS3; simp only [Act.put, List.setIfInBounds_toArray, List.set_cons_zero, List.set_cons_succ])
      | ((with_reducible refine wpList_store_state (by rfl) (.tmp 6) (.tmp 20) (by rfl) M1 x1 k1 l1 (by with_unfolding_all rfl) (by with_unfolding_all rfl) Sv.none 0 0 (unhide HX3) ?_); intro W4 HX4 HE4; simp only [Act.put]; have hb4 : Below W2.heap.size W2 W4 := (by rw [unhide HE4, ← unhide HM1]; exact belowRow (unhide HB3) (Nat.le_refl _) _); replace HX1 := hide (box_below (unhide HX1) hb4); replace HOJ := hide ((unhide HOJ).below hb4); replace HBU : Hid (Below N u W4) := (unhide HBU).trans (hb4.mono (by have := unhide HS2; omega)); replace HS2 : Hid (N + 1 ≤ W4.heap.size) := Nat.le_trans (unhide HS2) hb4.size; clear hb4 HX3 HB3 HS3 HE4; obtain ⟨c0, c1, c2⟩ := ((unhide HLA).below (unhide HU _ (unhide HBU))).cells; obtain ⟨e0, e1⟩ := st_cells (unhide HX4))
      | (go_at_call 51; refine (oMade a.key S x1 k1 l1 re W4 W1.heap.size (unhide HK1) (unhide HK2) (unhide HOJ) (unhide HFJ) (unhide HSJ) J r (unhide HMJ)).mono ?_; rintro e W5 ⟨x2, k2, l2, rfl, h1, h2, h3, h4⟩; have HE1 := hide h1; have HE2 := hide h2; have HO5 := hide h3; replace HX1 := hide (box_below (unhide HX1) h4); replace HBU : Hid (Below N u W5) := (unhide HBU).trans (h4.mono (by have := unhide HS2; omega)); clear h1 h2 h3 h4 c0 c1 c2 e0 e1; simp only [obV])
      | ((with_reducible refine wpList_store_ob (by rfl) (.tmp 4) (.tmp 27) (by rfl) N J.key x2 k2 l2 (by with_unfolding_all rfl) (by with_unfolding_all rfl) _ _ _ _ (unhide HX1) ?_); intro W7 HX7 HE7; simp only [Act.put])
      | fail)
    refine bodyPost_ret (results_cell_tmp rfl _ _ N 33 #[.string J.key, .slice x2.sa k2 x2.sc, .slice x2.ba l2 x2.bc] (0, 0) _ rfl (unhide HX7) obUnd rfl obInfo) rfl ?_
    refine ⟨x2, k2, l2, rfl, unhide HE1, unhide HE2, ?_, by rw [unhide HE7]; exact belowRow (unhide HBU) (Nat.le_refl _) _⟩
    rw [unhide HE7]
    refine ((unhide HO5).down (by have := unhide HS1; omega)).keep fun g hg => heapRow_other _ _ _ _ ?_
    have h1 := ((unhide HO5).lt hg).1
    have h2 := unhide HS1
    omega
  · rw [if_neg hk] at hJ
    cases hJ
    have hq : (a.key.toList == b.key.toList) = false := by
      rw [← Bool.not_eq_true]
      intro h
      exact hk (toList_inj h)
    rw [← hN]
    clear hN hk ha hb
    go_enter Try.func49, Try.ntmps49
    go_wp2_with (first
      | ((with_reducible refine wpList_alloc_ob (by rfl) (by rfl) (some 4) (by rfl) N (unhide HN) ?_); intro W1 HX1 HB1 HS1; simp only [Act.put, List.setIfInBounds_toArray, List.set_cons_zero, List.set_cons_succ]; obtain ⟨c0, c1, c2⟩ := ((unhide HLA).below (unhide HU _ (unhide HB1))).cells; obtain ⟨d0, d1, d2⟩ := ((unhide HLB).below (unhide HU _ (unhide HB1))).cells)
      | ((with_reducible refine wpList_store_ob (by rfl) (.tmp 4) (.tmp 13) (by rfl) N ⟨#[]⟩ Sv.none 0 0 (by with_unfolding_all rfl) (by with_unfolding_all rfl) _ _ _ _ (unhide HX1) ?_); intro W7 HX7 HE7; simp only [Act.put])
      | fail)
    refine bodyPost_ret (results_cell_tmp rfl _ _ N 33 #[.string ⟨#[]⟩, .slice none 0 0, .slice none 0 0] (0, 0) _ rfl (unhide HX7) obUnd rfl obInfo) rfl ?_
    exact ⟨Sv.none, 0, 0, rfl, rfl, rfl, OwnT.none _ _, by rw [unhide HE7]; exact belowRow (unhide HB1) (Nat.le_refl _) _⟩
/-- what the outer closure of Merge answers -/
noncomputable def mrg1 (a b : Ot) : Ot × Int := if ckE b = 0 then mrg0 a b else (Ot.none, ckE b)
theorem tell_of {u W W' : World} {J : Ot} {B : Nat} {x : Sv} {k l : Nat} (hB : B ≤ W.heap.size) (h1 : k = J.st.seen.length) (h2 : l = J.st.sibs.length) (h3 : OwnT W' W.heap.size J.st x) (h4 : Below W.heap.size W W') : Tell u W W' J B (fun _ => True) x k l :=
  ⟨h1, h2, h3.down hB, h4, fun g hg => by rw [h1, h2] at hg; exact .inr (h3.lt hg).1, fun _ _ => trivial⟩
set_option maxRecDepth 100000 in
set_option maxHeartbeats 2000000 in
theorem oMerge1 {u : World} {ga gb : Nat} {a b : Ot} {va vb : Sv} {n m n' m' : Nat} (ha : Lo u ga a va n m) (hb : Lo u gb b vb n' m') (t : ByteArray) (J : Ot) (r : Int) (hJ : mrg1 a b = (J, r)) :
    Calls Try.prog 48 (#[.string t] ++ #[.pointer (some ⟨gb, 0, none⟩), .pointer (some ⟨ga, 0, none⟩)]) u fun y u' => ∃ x k l, y = .returned (.tuple #[obV J.key x k l, .int .i64 r]) ∧ k = J.st.seen.length ∧ l = J.st.sibs.length ∧ OwnT u' u.heap.size J.st x ∧ Below u.heap.size u u' := by
  obtain ⟨N, hN⟩ : ∃ N, N = u.heap.size := ⟨_, rfl⟩
  have HN := hide hN
  have HU : Hid (∀ W : World, Below N u W → Below u.heap.size u W) := fun W hW => by rw [← unhide HN]; exact hW
  have HLB := hide hb
  have HM : Hid (∀ W, Below N u W → Calls Try.prog 47 #[obV b.key vb n' m', .func (.func 49) #[] #[.pointer (some ⟨ga, 0, none⟩), .pointer (some ⟨gb, 0, none⟩)]] W fun e u' => ∃ x a b, e = .returned (.tuple #[obV J.key x a b, .int .i64 r]) ∧ a = J.st.seen.length ∧ b = J.st.sibs.length ∧ OwnT u' W.heap.size J.st x ∧ Below W.heap.size W u' ∧ ∀ g, x.has a b g → True) := fun W hW => by
    unfold mrg1 at hJ
    have hbu := unhide HU _ hW
    by_cases hc : ckE b = 0
    · rw [if_pos hc] at hJ
      refine oMayO (hb.toSx.below hbu) _ _ (ent_lit _ (by kernel_rfl)) _ _ _ _ (fun _ V hV => ?_) (fun hn => absurd hc hn)
      refine (oMerge2 ((ha.below hbu).below hV) ((hb.below hbu).below hV) _ J r hJ).mono ?_
      rintro e V' ⟨x, k, l, h1, h2, h3, h4, h5⟩
      exact ⟨_, h1, x, k, l, rfl, tell_of hV.size h2 h3 h4 h5⟩
    · rw [if_neg hc] at hJ
      cases hJ
      exact oMayO (hb.toSx.below hbu) _ _ (ent_lit _ (by kernel_rfl)) _ _ _ _ (fun hn => absurd hn hc) (fun _ => ⟨rfl, rfl⟩)
  rw [← hN]
  clear hN ha hb hJ
  show Calls Try.prog 48 #[.string t, .pointer (some ⟨gb, 0, none⟩), .pointer (some ⟨ga, 0, none⟩)] u _
  go_enter Try.func48, Try.ntmps48
  go_wp2_with (first
    | ((with_reducible refine wpList_alloc_ob (by rfl) (by rfl) (some 4) (by rfl) N (unhide HN) ?_); intro W1 HX1 HB1 HS1; simp only [Act.put, List.setIfInBounds_toArray, List.set_cons_zero, List.set_cons_succ]; obtain ⟨c0, c1, c2⟩ := ((unhide HLB).below (unhide HU _ (unhide HB1))).cells)
    | (go_at_call 47; refine (unhide HM W1 (unhide HB1)).mono ?_; rintro e W2 ⟨x2, k2, l2, rfl, h1, h2, h3, h4, -⟩; have HE1 := hide h1; have HE2 := hide h2; have HO5 := hide h3; replace HX1 := hide (box_below (unhide HX1) h4); replace HB1 : Hid (Below N u W2) := (unhide HB1).trans (h4.mono (by rw [unhide HS1]; omega)); clear h1 h2 h3 h4; simp only [obV])
    | ((with_reducible refine wpList_store_ob (by rfl) (.tmp 4) (.tmp 9) (by rfl) N J.key x2 k2 l2 (by with_unfolding_all rfl) (by with_unfolding_all rfl) _ _ _ _ (unhide HX1) ?_); intro W7 HX7 HE7; simp only [Act.put])
    | fail)
  refine bodyPost_ret (results_cell_tmp rfl _ _ N 33 #[.string J.key, .slice x2.sa k2 x2.sc, .slice x2.ba l2 x2.bc] (0, 0) _ rfl (unhide HX7) obUnd rfl obInfo) rfl ?_
  refine ⟨x2, k2, l2, rfl, unhide HE1, unhide HE2, ?_, by rw [unhide HE7]; exact belowRow (unhide HB1) (Nat.le_refl _) _⟩
  rw [unhide HE7]
  refine ((unhide HO5).down (by have := unhide HS1; omega)).keep fun g hg => heapRow_other _ _ _ _ ?_
  have h1 := ((unhide HO5).lt hg).1
  have h2 := unhide HS1
  omega
theorem mergeV_eq (a b : Ot) : mergeV a b = if ckE a = 0 then mrg1 a b else (Ot.none, ckE a) := rfl
set_option maxRecDepth 100000 in
set_option maxHeartbeats 2000000 in
theorem oMerge {u : World} {a b : Ot} {va vb : Sv} {n m n' m' : Nat} (ha : Sx u a.st va n m) (hb : Sx u b.st vb n' m') (J : Ot) (r : Int) (hJ : mergeV a b = (J, r)) :
    Calls Try.prog 22 #[obV a.key va n m, obV b.key vb n' m'] u fun y u' => ∃ x k l, y = .returned (.tuple #[obV J.key x k l, .int .i64 r]) ∧ k = J.st.seen.length ∧ l = J.st.sibs.length ∧ OwnT u' u.heap.size J.st x ∧ Below u.heap.size u u' := by
  obtain ⟨N, hN⟩ : ∃ N, N = u.heap.size := ⟨_, rfl⟩
  have HN := hide hN
  have HU : Hid (∀ W : World, Below N u W → Below u.heap.size u W) := fun W hW => by rw [← unhide HN]; exact hW
  have HM : Hid (∀ W, Below N u W → W.heap[N]? = some (obRow a.key va n m) → W.heap[N + 1]? = some (obRow b.key vb n' m') → Calls Try.prog 47 #[obV a.key va n m, .func (.func 48) #[] #[.pointer (some ⟨N + 1, 0, none⟩), .pointer (some ⟨N, 0, none⟩)]] W fun e u' => ∃ x a b, e = .returned (.tuple #[obV J.key x a b, .int .i64 r]) ∧ a = J.st.seen.length ∧ b = J.st.sibs.length ∧ OwnT u' W.heap.size J.st x ∧ Below W.heap.size W u' ∧ ∀ g, x.has a b g → True) := fun W hW hR1 hR2 => by
    rw [mergeV_eq] at hJ
    have hbu := unhide HU _ hW
    by_cases hc : ckE a = 0
    · rw [if_pos hc] at hJ
      refine oMayO (ha.below hbu) _ _ (ent_lit _ (by kernel_rfl)) _ _ _ _ (fun _ V hV => ?_) (fun hn => absurd hc hn)
      refine (oMerge1 (ga := N) (gb := N + 1) (va := va) (vb := vb) (n := n) (m := m) (n' := n') (m' := m') ⟨(ha.below hbu).below hV, box_below hR1 hV⟩ ⟨(hb.below hbu).below hV, box_below hR2 hV⟩ _ J r hJ).mono ?_
      rintro e V' ⟨x, k, l, h1, h2, h3, h4, h5⟩
      exact ⟨_, h1, x, k, l, rfl, tell_of hV.size h2 h3 h4 h5⟩
    · rw [if_neg hc] at hJ
      cases hJ
      exact oMayO (ha.below hbu) _ _ (ent_lit _ (by kernel_rfl)) _ _ _ _ (fun hn => absurd hn hc) (fun _ => ⟨rfl, rfl⟩)
  rw [← hN]
  clear hN ha hb hJ
  go_enter Try.func22, Try.ntmps22
  go_wp2_with (first
    | ((with_reducible refine wpList_box_ob (by rfl) (.tmp 0) (by rfl) (some 2) (by rfl) N (unhide HN) a.key va n m (by with_unfolding_all rfl) ?_); intro W1 HX1 HB1 HS1; simp only [Act.put, List.setIfInBounds_toArray, List.set_cons_zero, List.set_cons_succ])
    | ((with_reducible refine wpList_box_ob (by rfl) (.tmp 1) (by rfl) (some 3) (by rfl) (N + 1) (unhide HS1).symm b.key vb n' m' (by with_unfolding_all rfl) ?_); intro W2 HX2 HB2 HS2; simp only [Act.put, List.setIfInBounds_toArray, List.set_cons_zero, List.set_cons_succ])
    | ((with_reducible refine wpList_alloc_ob (by rfl) (by rfl) (some 4) (by rfl) (N + 1 + 1) (unhide HS2).symm ?_); intro W3 HX3 HB3 HS3; simp only [Act.put, List.setIfInBounds_toArray, List.set_cons_zero, List.set_cons_succ]; have HBU : Hid (Below N u W3) := (unhide HB1).trans (((unhide HB2).mono (Nat.le_succ _)).trans ((unhide HB3).mono (by omega))); replace HX1 := hide (((unhide HB3).block N (by omega)).trans (((unhide HB2).block N (Nat.lt_succ_self _)).trans (unhide HX1))); replace HX2 := hide (((unhide HB3).block (N + 1) (Nat.lt_succ_self _)).trans (unhide HX2)); obtain ⟨c0, c1, c2⟩ := ob_cells (unhide HX1))
    | (go_at_call 47; refine (unhide HM W3 (unhide HBU) (unhide HX1) (unhide HX2)).mono ?_; rintro e W4 ⟨x2, k2, l2, rfl, h1, h2, h3, h4, -⟩; have HE1 := hide h1; have HE2 := hide h2; have HO5 := hide h3; replace HX3 := hide (box_below (unhide HX3) h4); replace HBU : Hid (Below N u W4) := (unhide HBU).trans (h4.mono (by rw [unhide HS3]; omega)); clear h1 h2 h3 h4; simp only [obV])
    | ((with_reducible refine wpList_store_ob (by rfl) (.tmp 4) (.tmp 9) (by rfl) (N + 1 + 1) J.key x2 k2 l2 (by with_unfolding_all rfl) (by with_unfolding_all rfl) _ _ _ _ (unhide HX3) ?_); intro W7 HX7 HE7; simp only [Act.put])
    | fail)
  refine bodyPost_ret (results_cell_tmp rfl _ _ (N + 1 + 1) 33 #[.string J.key, .slice x2.sa k2 x2.sc, .slice x2.ba l2 x2.bc] (0, 0) _ rfl (unhide HX7) obUnd rfl obInfo) rfl ?_
  refine ⟨x2, k2, l2, rfl, unhide HE1, unhide HE2, ?_, by rw [unhide HE7]; exact belowRow (unhide HBU) (by omega) _⟩
  rw [unhide HE7]
  refine ((unhide HO5).down (by have := unhide HS3; omega)).keep fun g hg => heapRow_other _ _ _ _ ?_
  have h1 := ((unhide HO5).lt hg).1
  have h2 := unhide HS3
  omega
end Go.Proofs.Ytkcbljmjhlnjpaa
namespace Go.Proofs.Ytkcbljmjhlnjpaa
open Go.RowKit
theorem btw_cut (l : List Sb) (x : Sb) : ∃ p, p ≤ l.length ∧ btw l x = l.take p ++ x :: l.drop p := by
  induction l with
  | nil => exact ⟨0, Nat.le_refl _, rfl⟩
  | cons y l ih =>
    rw [btw]
    split
    · obtain ⟨p, hp, h⟩ := ih
      exact ⟨p + 1, by simpa using hp, by rw [h]; rfl⟩
    · exact ⟨0, Nat.zero_le _, rfl⟩
/-- what is told of a put -/
structure PutOf (s T : St) (ctx : List (Nat × Nat)) (x : Sb) : Prop where
  ok : SOk T
  up : sbel s T
  ns : ¬ cov s.seen x.dot
  nc : ¬ cov ctx x.dot
  ct : cov T.seen x.dot
  bel : V.Bel ctx T.seen
  sibs : T.sibs = btw (uns ctx s.sibs) x
theorem put_of {s : St} {ctx : List (Nat × Nat)} {x : Nat} {val : ByteArray} {gone : Bool} (hs : SOk s) (hc : V.Ok ctx) (hm : mayB gone val = true) (ht : topc s.seen ctx x ≠ 1099511627776)
    (h1 : (putS s ctx (putX s ctx x val gone)).seen.length ≤ 64) (h2 : (putS s ctx (putX s ctx x val gone)).sibs.length ≤ 64) : PutOf s (putS s ctx (putX s ctx x val gone)) ctx (putX s ctx x val gone) := by
  have hX : (putX s ctx x val gone).dot = (x, topc s.seen ctx x + 1) := rfl
  have htop : topc s.seen ctx x = max (V.cnt s.seen x) (V.cnt ctx x) := rfl
  have hl1 := V.cnt_le hs.vec.pos x
  have hl2 := V.cnt_le hc.pos x
  have hone : V.Ok [(putX s ctx x val gone).dot] := oneOk (by rw [hX]; exact Nat.le_add_left 1 _) (by rw [hX]; show topc s.seen ctx x + 1 ≤ _; omega)
  have hns : ¬ cov s.seen (putX s ctx x val gone).dot := by
    rw [hX]; rintro ⟨_, h⟩
    have h : topc s.seen ctx x + 1 ≤ V.cnt s.seen x := h
    omega
  have hnc : ¬ cov ctx (putX s ctx x val gone).dot := by
    rw [hX]; rintro ⟨_, h⟩
    have h : topc s.seen ctx x + 1 ≤ V.cnt ctx x := h
    omega
  have hmay : (putX s ctx x val gone).may := by
    unfold Sb.may
    show if gone = true then val.size = 0 else val.size ≤ 40
    unfold mayB at hm
    cases gone <;> simp_all
  have hcv : ∀ d, cov (putS s ctx (putX s ctx x val gone)).seen d ↔ (cov s.seen d ∨ cov ctx d) ∨ cov [(putX s ctx x val gone).dot] d := fun d => by
    show cov (V.mrg (V.mrg s.seen ctx) [(putX s ctx x val gone).dot]) d ↔ _
    rw [cov_mrg (V.mrg_vec hs.vec hc.toVec) hone.toVec, cov_mrg hs.vec hc.toVec]
  have hself : cov [(putX s ctx x val gone).dot] (putX s ctx x val gone).dot := by
    rw [hX]
    refine ⟨Nat.le_add_left 1 _, ?_⟩
    show topc s.seen ctx x + 1 ≤ V.cnt [(x, topc s.seen ctx x + 1)] x
    simp [V.cnt]
  have hmem : ∀ z, z ∈ (putS s ctx (putX s ctx x val gone)).sibs ↔ z = putX s ctx x val gone ∨ z ∈ uns ctx s.sibs := fun z => mem_btw
  have hrise : Rise (putS s ctx (putX s ctx x val gone)).sibs := rise_btw (rise_uns hs.up) fun y hy e => hns (by rw [← e]; exact hs.cvd y (mem_uns.1 hy).1)
  have hT : SOk (putS s ctx (putX s ctx x val gone)) := ⟨⟨V.mrg_vec (V.mrg_vec hs.vec hc.toVec) hone.toVec, hrise, fun z hz => by
      rcases (hmem z).1 hz with rfl | h
      · exact (hcv _).2 (.inr hself)
      · exact (hcv _).2 (.inl (.inl (hs.cvd z (mem_uns.1 h).1))), fun z hz => by
      rcases (hmem z).1 hz with rfl | h
      · exact hmay
      · exact hs.may z (mem_uns.1 h).1⟩, h1, h2⟩
  refine ⟨hT, fun d => ?_, hns, hnc, (hcv _).2 (.inr hself), fun a => ?_, rfl⟩
  · rcases says_cases s d with ⟨y, hy, rfl⟩ | hn
    · rw [says_mem hs.up hy]
      by_cases hcc : cov ctx y.dot
      · rw [says_not (s := putS s ctx (putX s ctx x val gone)) fun z hz e => by
          rcases (hmem z).1 hz with rfl | h
          · exact hnc (by rw [e]; exact hcc)
          · exact (mem_uns.1 h).2 (by rw [e]; exact hcc), if_pos ((hcv _).2 (.inl (.inr hcc)))]
        trivial
      · rw [says_mem (s := putS s ctx (putX s ctx x val gone)) hrise ((hmem y).2 (.inr (mem_uns.2 ⟨hy, hcc⟩)))]
        exact Say.le_refl _
    · rw [says_not hn]
      by_cases hcs : cov s.seen d
      · rw [if_pos hcs, says_not (s := putS s ctx (putX s ctx x val gone)) fun z hz e => by
          rcases (hmem z).1 hz with rfl | h
          · exact hns (by rw [e]; exact hcs)
          · exact hn z (mem_uns.1 h).1 e, if_pos ((hcv _).2 (.inl (.inl hcs)))]
        trivial
      · rw [if_neg hcs]; trivial
  · show V.cnt ctx a ≤ V.cnt (V.mrg (V.mrg s.seen ctx) [(putX s ctx x val gone).dot]) a
    rw [V.cnt_mrg (V.mrg_vec hs.vec hc.toVec) hone.toVec, V.cnt_mrg hs.vec hc.toVec]
    omega
open Classical in
/-- a put: refused, or made -/
theorem put_cases (s : St) (ctx : List (Nat × Nat)) (x : Nat) (val : ByteArray) (gone : Bool) : (∃ r, r ≠ 0 ∧ putV s ctx x val gone = (St.none, (0, 0), r)) ∨
    (SOk s ∧ V.Ok ctx ∧ ∃ X : Sb, X.a = x ∧ X.gone = gone ∧ X.val = val ∧ X.c ≤ 1099511627776 ∧ PutOf s (putS s ctx X) ctx X ∧ putV s ctx x val gone = (putS s ctx X, X.dot, 0)) := by
  unfold putV
  by_cases h0 : wrongE s ctx gone val ≠ 0
  · rw [if_pos h0]; exact .inl ⟨_, h0, rfl⟩
  · rw [if_neg h0]
    obtain ⟨hs, hc, hm⟩ := wrong_zero.1 (Decidable.not_not.1 h0)
    by_cases ht : topc s.seen ctx x = 1099511627776
    · rw [if_pos ht]; exact .inl ⟨101, by decide, rfl⟩
    · rw [if_neg ht]
      by_cases h1 : (putS s ctx (putX s ctx x val gone)).seen.length ≤ 64 ∧ (putS s ctx (putX s ctx x val gone)).sibs.length ≤ 64
      · rw [if_pos h1]
        refine .inr ⟨hs, hc, putX s ctx x val gone, rfl, rfl, rfl, ?_, put_of hs hc hm ht h1.1 h1.2, rfl⟩
        have hl1 := V.cnt_le hs.vec.pos x
        have hl2 := V.cnt_le hc.pos x
        have htop : topc s.seen ctx x = max (V.cnt s.seen x) (V.cnt ctx x) := rfl
        show topc s.seen ctx x + 1 ≤ 1099511627776
        omega
      · rw [if_neg h1]; exact .inl ⟨82, by decide, rfl⟩
end Go.Proofs.Ytkcbljmjhlnjpaa
