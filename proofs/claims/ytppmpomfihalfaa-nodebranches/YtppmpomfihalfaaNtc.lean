/- Put together out of Nsr, Nss, Nst, Nsu, Nsv, Nsw. -/
import Derived.Test.YtppmpomfihalfaaNry
import Derived.Test.YtppmpomfihalfaaNrm
import Derived.Test.YtppmpomfihalfaaNsi
import Derived.Deep.MidRow
namespace Go.Proofs.Ytppmpomfihalfaa
section
open Go.RowKit
set_option maxRecDepth 100000 in
set_option maxHeartbeats 4000000 in
theorem rBranch (n : Nd) (a : Nv) (u : World) (h : NdAt u n a) (hb : n.Kind → n.cells.length + n.keys.length ≤ 8796093022208) : Calls Try.prog 93 #[a.v n] u fun e u' => e = .returned (.int .i64 (n.refused false)) ∧ Below u.heap.size u u' := by
  have H1 := hide (fun (v : World) (hv : Below u.heap.size u v) => rCheck n a v (h.below hv) hb)
  obtain ⟨N, hN⟩ : ∃ N, N = u.heap.size := ⟨_, rfl⟩
  have HN := hide hN
  rw [← hN] at H1 ⊢
  clear hN h hb
  rw [Nv.v_eq] at H1 ⊢
  obtain ⟨ca, cc, ka, kc, ga, gc⟩ := a
  unfold Nd.refused
  generalize n.check = c at *
  generalize n.cells.length = cn at *
  generalize n.keys.length = kn at *
  generalize n.kids.length = gn at *
  generalize n.leaf = lf at *
  by_cases hc : c = 0
  · subst hc
    cases lf
    · show Calls Try.prog 93 _ u fun e u' => e = .returned (.int .i64 0) ∧ Below N u u'
      go_enter Try.func93, Try.ntmps93
      go_wp2_with (first
        | ((with_reducible refine wpList_box_node (by rfl) (.tmp 0) (by rfl) (some 1) (by rfl) N (unhide HN) false ca cn cc ka kn kc ga gn gc (by with_unfolding_all rfl) ?_); intro W0 HX0 HB0 HS0; simp only [Act.put, List.setIfInBounds_toArray, List.set_cons_zero, List.set_cons_succ]; obtain ⟨y0, y1, y2, y3⟩ := box4 (unhide HX0))
        | fail)
      refine (unhide H1 _ (unhide HB0)).mono ?_
      rintro e W1 ⟨rfl, hb1⟩
      have HK1 := hide (Kb.below ⟨unhide HB0, unhide HX0⟩ hb1)
      clear hb1 HX0 HB0 HS0 y0 y1 y2 y3
      obtain ⟨y0, y1, y2, y3⟩ := box4 (unhide HK1).2
      go_wp2
      go_ret
      exact ⟨rfl, (unhide HK1).1⟩
    · show Calls Try.prog 93 _ u fun e u' => e = .returned (.int .i64 80) ∧ Below N u u'
      go_enter Try.func93, Try.ntmps93
      go_wp2_with (first
        | ((with_reducible refine wpList_box_node (by rfl) (.tmp 0) (by rfl) (some 1) (by rfl) N (unhide HN) true ca cn cc ka kn kc ga gn gc (by with_unfolding_all rfl) ?_); intro W0 HX0 HB0 HS0; simp only [Act.put, List.setIfInBounds_toArray, List.set_cons_zero, List.set_cons_succ]; obtain ⟨y0, y1, y2, y3⟩ := box4 (unhide HX0))
        | fail)
      refine (unhide H1 _ (unhide HB0)).mono ?_
      rintro e W1 ⟨rfl, hb1⟩
      have HK1 := hide (Kb.below ⟨unhide HB0, unhide HX0⟩ hb1)
      clear hb1 HX0 HB0 HS0 y0 y1 y2 y3
      obtain ⟨y0, y1, y2, y3⟩ := box4 (unhide HK1).2
      go_wp2
      go_ret
      exact ⟨rfl, (unhide HK1).1⟩
  · rw [if_pos hc]
    have hcb : (c == 0) = false := beq_false_of_ne hc
    go_enter Try.func93, Try.ntmps93
    go_wp2_with (first
      | ((with_reducible refine wpList_box_node (by rfl) (.tmp 0) (by rfl) (some 1) (by rfl) N (unhide HN) lf ca cn cc ka kn kc ga gn gc (by with_unfolding_all rfl) ?_); intro W0 HX0 HB0 HS0; simp only [Act.put, List.setIfInBounds_toArray, List.set_cons_zero, List.set_cons_succ]; obtain ⟨y0, y1, y2, y3⟩ := box4 (unhide HX0))
      | fail)
    refine (unhide H1 _ (unhide HB0)).mono ?_
    rintro e W1 ⟨rfl, hb1⟩
    have HK1 := hide (Kb.below ⟨unhide HB0, unhide HX0⟩ hb1)
    clear hb1 HX0 HB0 HS0 y0 y1 y2 y3
    obtain ⟨y0, y1, y2, y3⟩ := box4 (unhide HK1).2
    go_wp2
    go_ret
    exact ⟨rfl, (unhide HK1).1⟩
end
section
open Go.RowKit
open Classical in
set_option maxRecDepth 100000 in
set_option maxHeartbeats 4000000 in
theorem rWhole (n : Nd) (a : Nv) (u : World) (h : NdAt u n a) (hs : n.Small) : Calls Try.prog 95 #[a.v n] u fun e u' => e = .returned (if ¬ rises n.keys then .tuple #[zeroV, .int .i64 81] else if 1992 < n.size then .tuple #[zeroV, .int .i64 82] else .tuple #[a.v n, .int .i64 0]) ∧ Below u.heap.size u u' := by
  have H1 := hide (fun (v : World) (hv : Below u.heap.size u v) => rRise n.keys a.ka a.kc v (h.below hv).keys (by have := h.len.2.1; omega))
  have H2 := hide (fun (v : World) (hv : Below u.heap.size u v) => rLong n a hs v (h.below hv))
  obtain ⟨N, hN⟩ : ∃ N, N = u.heap.size := ⟨_, rfl⟩
  have HN := hide hN
  rw [← hN] at H1 H2 ⊢
  clear hN h hs
  rw [Nv.v_eq] at H2 ⊢
  obtain ⟨ca, cc, ka, kc, ga, gc⟩ := a
  by_cases hr : rises n.keys
  · rw [if_neg (fun hx => hx hr)]
    rw [decide_eq_true hr] at H1
    clear hr
    by_cases hz : 1992 < n.size
    · rw [if_pos hz]
      have hzi : (1992 : Int) < (n.size : Int) := by omega
      clear hz
      unfold zeroV
      generalize n.size = sz at *
      generalize n.cells.length = cn at *
      generalize n.keys.length = kn at *
      generalize n.kids.length = gn at *
      generalize n.leaf = lf at *
      go_enter Try.func95, Try.ntmps95
      go_wp2_with (first
        | ((with_reducible refine wpList_box_node (by rfl) (.tmp 0) (by rfl) (some 1) (by rfl) N (unhide HN) lf ca cn cc ka kn kc ga gn gc (by with_unfolding_all rfl) ?_); intro W0 HX0 HB0 HS0; simp only [Act.put, List.setIfInBounds_toArray, List.set_cons_zero, List.set_cons_succ])
        | ((with_reducible refine wpList_alloc_node (by rfl) (by rfl) (some 2) (by rfl) (N + 1) (unhide HS0).symm ?_); intro W1 HX1 HB1 HS1; simp only [Act.put, List.setIfInBounds_toArray, List.set_cons_zero, List.set_cons_succ]; have HX1b := hide (((unhide HB1).block N (Nat.lt_succ_self _)).trans (unhide HX0)); obtain ⟨y0, y1, y2, y3⟩ := box4 (unhide HX1b))
        | fail)
      have HBL : Hid (Below N u W1) := (unhide HB0).trans ((unhide HB1).mono (Nat.le_succ _))
      refine (unhide H1 _ (unhide HBL)).mono ?_
      rintro e W2 ⟨rfl, hb2⟩
      have HX2 := hide (box_below (unhide HX1) hb2)
      have HX2b := hide (box_below (unhide HX1b) hb2)
      have HBL2 : Hid (Below N u W2) := (unhide HBL).trans (hb2.mono (by rw [unhide HS1]; omega))
      clear hb2 y0 y1 y2 y3 HX0 HB0 HS0 HB1 HS1 HX1 HX1b HBL
      obtain ⟨y0, y1, y2, y3⟩ := box4 (unhide HX2b)
      go_wp2_with fail
      refine (unhide H2 _ (unhide HBL2)).mono ?_
      rintro e W3 ⟨rfl, hb3⟩
      have HX3 := hide (box_below (unhide HX2) hb3)
      have HX3b := hide (box_below (unhide HX2b) hb3)
      have HBL3 : Hid (Below N u W3) := (unhide HBL2).trans (hb3.mono (by have := (Array.getElem?_eq_some_iff.1 (unhide HX2)).1; omega))
      clear hb3 y0 y1 y2 y3 HX2 HX2b HBL2
      obtain ⟨y0, y1, y2, y3⟩ := box4 (unhide HX3b)
      go_wp2_with (first
        | ((with_reducible refine wpList_store_node (by rfl) (.tmp 2) (.tmp 12) (by rfl) (N + 1) false none 0 0 none 0 0 none 0 0 (by with_unfolding_all rfl) (by with_unfolding_all rfl) (unhide HX3) ?_); intro W9 HX9 HE9; simp only [Act.put])
        | fail)
      have HB9 : Hid (Below N u W9) := by rw [unhide HE9]; exact belowRow (unhide HBL3) (Nat.le_succ N) _
      go_wp2
      refine bodyPost_ret (results_cell_tmp rfl _ _ (N + 1) 26 #[.bool false, .slice none 0 0, .slice none 0 0, .slice none 0 0] (0, 0) _ rfl (unhide HX9) nodeUnd rfl nodeInfo) rfl ?_
      exact ⟨rfl, unhide HB9⟩
    · rw [if_neg hz]
      have hzi : ¬ (1992 : Int) < (n.size : Int) := by omega
      clear hz
      generalize n.size = sz at *
      generalize n.cells.length = cn at *
      generalize n.keys.length = kn at *
      generalize n.kids.length = gn at *
      generalize n.leaf = lf at *
      go_enter Try.func95, Try.ntmps95
      go_wp2_with (first
        | ((with_reducible refine wpList_box_node (by rfl) (.tmp 0) (by rfl) (some 1) (by rfl) N (unhide HN) lf ca cn cc ka kn kc ga gn gc (by with_unfolding_all rfl) ?_); intro W0 HX0 HB0 HS0; simp only [Act.put, List.setIfInBounds_toArray, List.set_cons_zero, List.set_cons_succ])
        | ((with_reducible refine wpList_alloc_node (by rfl) (by rfl) (some 2) (by rfl) (N + 1) (unhide HS0).symm ?_); intro W1 HX1 HB1 HS1; simp only [Act.put, List.setIfInBounds_toArray, List.set_cons_zero, List.set_cons_succ]; have HX1b := hide (((unhide HB1).block N (Nat.lt_succ_self _)).trans (unhide HX0)); obtain ⟨y0, y1, y2, y3⟩ := box4 (unhide HX1b))
        | fail)
      have HBL : Hid (Below N u W1) := (unhide HB0).trans ((unhide HB1).mono (Nat.le_succ _))
      refine (unhide H1 _ (unhide HBL)).mono ?_
      rintro e W2 ⟨rfl, hb2⟩
      have HX2 := hide (box_below (unhide HX1) hb2)
      have HX2b := hide (box_below (unhide HX1b) hb2)
      have HBL2 : Hid (Below N u W2) := (unhide HBL).trans (hb2.mono (by rw [unhide HS1]; omega))
      clear hb2 y0 y1 y2 y3 HX0 HB0 HS0 HB1 HS1 HX1 HX1b HBL
      obtain ⟨y0, y1, y2, y3⟩ := box4 (unhide HX2b)
      go_wp2_with fail
      refine (unhide H2 _ (unhide HBL2)).mono ?_
      rintro e W3 ⟨rfl, hb3⟩
      have HX3 := hide (box_below (unhide HX2) hb3)
      have HX3b := hide (box_below (unhide HX2b) hb3)
      have HBL3 : Hid (Below N u W3) := (unhide HBL2).trans (hb3.mono (by have := (Array.getElem?_eq_some_iff.1 (unhide HX2)).1; omega))
      clear hb3 y0 y1 y2 y3 HX2 HX2b HBL2
      obtain ⟨y0, y1, y2, y3⟩ := box4 (unhide HX3b)
      go_wp2_with (first
        | ((with_reducible refine wpList_store_node (by rfl) (.tmp 2) (.tmp 13) (by rfl) (N + 1) lf ca cn cc ka kn kc ga gn gc (by with_unfolding_all rfl) (by with_unfolding_all rfl) (unhide HX3) ?_); intro W9 HX9 HE9; simp only [Act.put])
        | fail)
      have HB9 : Hid (Below N u W9) := by rw [unhide HE9]; exact belowRow (unhide HBL3) (Nat.le_succ N) _
      go_wp2
      refine bodyPost_ret (results_cell_tmp rfl _ _ (N + 1) 26 #[.bool lf, .slice ca cn cc, .slice ka kn kc, .slice ga gn gc] (0, 0) _ rfl (unhide HX9) nodeUnd rfl nodeInfo) rfl ?_
      exact ⟨rfl, unhide HB9⟩
  · rw [if_pos hr]
    rw [decide_eq_false hr] at H1
    clear hr H2
    unfold zeroV
    generalize n.cells.length = cn at *
    generalize n.keys.length = kn at *
    generalize n.kids.length = gn at *
    generalize n.leaf = lf at *
    go_enter Try.func95, Try.ntmps95
    go_wp2_with (first
      | ((with_reducible refine wpList_box_node (by rfl) (.tmp 0) (by rfl) (some 1) (by rfl) N (unhide HN) lf ca cn cc ka kn kc ga gn gc (by with_unfolding_all rfl) ?_); intro W0 HX0 HB0 HS0; simp only [Act.put, List.setIfInBounds_toArray, List.set_cons_zero, List.set_cons_succ])
      | ((with_reducible refine wpList_alloc_node (by rfl) (by rfl) (some 2) (by rfl) (N + 1) (unhide HS0).symm ?_); intro W1 HX1 HB1 HS1; simp only [Act.put, List.setIfInBounds_toArray, List.set_cons_zero, List.set_cons_succ]; have HX1b := hide (((unhide HB1).block N (Nat.lt_succ_self _)).trans (unhide HX0)); obtain ⟨y0, y1, y2, y3⟩ := box4 (unhide HX1b))
      | fail)
    have HBL : Hid (Below N u W1) := (unhide HB0).trans ((unhide HB1).mono (Nat.le_succ _))
    refine (unhide H1 _ (unhide HBL)).mono ?_
    rintro e W2 ⟨rfl, hb2⟩
    have HX2 := hide (box_below (unhide HX1) hb2)
    have HX2b := hide (box_below (unhide HX1b) hb2)
    have HBL2 : Hid (Below N u W2) := (unhide HBL).trans (hb2.mono (by rw [unhide HS1]; omega))
    clear hb2 y0 y1 y2 y3 HX0 HB0 HS0 HB1 HS1 HX1 HX1b HBL
    obtain ⟨y0, y1, y2, y3⟩ := box4 (unhide HX2b)
    go_wp2_with (first
      | ((with_reducible refine wpList_store_node (by rfl) (.tmp 2) (.tmp 8) (by rfl) (N + 1) false none 0 0 none 0 0 none 0 0 (by with_unfolding_all rfl) (by with_unfolding_all rfl) (unhide HX2) ?_); intro W9 HX9 HE9; simp only [Act.put])
      | fail)
    have HB9 : Hid (Below N u W9) := by rw [unhide HE9]; exact belowRow (unhide HBL2) (Nat.le_succ N) _
    go_wp2
    refine bodyPost_ret (results_cell_tmp rfl _ _ (N + 1) 26 #[.bool false, .slice none 0 0, .slice none 0 0, .slice none 0 0] (0, 0) _ rfl (unhide HX9) nodeUnd rfl nodeInfo) rfl ?_
    exact ⟨rfl, unhide HB9⟩
end
section
open Go.RowKit
/-- a row of texts, of numbers, that is a block's content -/
def RwK (w : World) (G : Nat) (xs : List Value) : Prop := w.heap[G]? = some (.cells xs.toArray 9 (0, 0))
def RwG (w : World) (G : Nat) (xs : List Value) : Prop := w.heap[G]? = some (.cells xs.toArray 50 (0, 0))
theorem RwK.below {w w' : World} {G : Nat} {xs : List Value} (h : RwK w G xs) (hb : Below w.heap.size w w') : RwK w' G xs := box_below h hb
theorem RwK.lies {w : World} {G : Nat} {xs : List Value} (h : RwK w G xs) : Lies w (some ⟨G, 0, none⟩) xs := Lies.row h
theorem RwK.setRow {w : World} {G : Nat} {xs : List Value} (h : RwK w G xs) (g : Nat) (cs : Array Value) (hg : ∀ b o, (some ⟨G, 0, none⟩ : Option Addr) = some ⟨b, o, none⟩ → b ≠ g) : RwK (w.setRow g cs) G xs := (heapRow_other w g G cs (hg G 0 rfl)).trans h
theorem RwK.own {w : World} {G c B : Nat} {l : List ByteArray} (h : RwK w G (flatK l)) (e : l.length = c) (hB : B ≤ G) (hm : c ≤ 1000000) : w.ownsRow B 9 1 (.slice (some ⟨G, 0, none⟩) l.length c) l.length (flatK l) :=
  ⟨by rw [flatK_len, Nat.mul_one], .inr ⟨G, c, (flatK l).toArray, rfl, hB, h, Nat.le_of_eq e, by simp only [maxLen]; omega, by rw [List.size_toArray, flatK_len, e, Nat.mul_one], by rw [List.toList_toArray, List.take_of_length_le (by rw [flatK_len, Nat.mul_one]; exact Nat.le_refl _)]⟩⟩
theorem RwG.below {w w' : World} {G : Nat} {xs : List Value} (h : RwG w G xs) (hb : Below w.heap.size w w') : RwG w' G xs := box_below h hb
theorem RwG.lies {w : World} {G : Nat} {xs : List Value} (h : RwG w G xs) : Lies w (some ⟨G, 0, none⟩) xs := Lies.row h
theorem RwG.setRow {w : World} {G : Nat} {xs : List Value} (h : RwG w G xs) (g : Nat) (cs : Array Value) (hg : ∀ b o, (some ⟨G, 0, none⟩ : Option Addr) = some ⟨b, o, none⟩ → b ≠ g) : RwG (w.setRow g cs) G xs := (heapRow_other w g G cs (hg G 0 rfl)).trans h
theorem RwG.own {w : World} {G c B : Nat} {l : List Nat} (h : RwG w G (flatG l)) (e : l.length = c) (hB : B ≤ G) (hm : c ≤ 1000000) : w.ownsRow B 50 1 (.slice (some ⟨G, 0, none⟩) l.length c) l.length (flatG l) :=
  ⟨by rw [flatG_len, Nat.mul_one], .inr ⟨G, c, (flatG l).toArray, rfl, hB, h, Nat.le_of_eq e, by simp only [maxLen]; omega, by rw [List.size_toArray, flatG_len, e, Nat.mul_one], by rw [List.toList_toArray, List.take_of_length_le (by rw [flatG_len, Nat.mul_one]; exact Nat.le_refl _)]⟩⟩
set_option maxRecDepth 100000 in
set_option maxHeartbeats 4000000 in
theorem nShrinkO (n : Nd) (a : Nv) (i : Nat) (u : World) (h : NdAt u n a) (hc : n.refused false = 0) (hi : i < n.keys.length) : Calls Try.prog 48 #[a.v n, .int .i64 (i : Int)] u fun e u' => ∃ b : Nv, e = .returned (.tuple #[b.v (n.shrink i), .int .i64 0]) ∧ Ow u' u.heap.size (n.shrink i).cells (n.shrink i).keys (n.shrink i).kids b ∧ Below u.heap.size u u' := by
  have hok := (Nd.refused_zero.1 hc).1
  have hle := hok.lens
  have hkk : n.kids.length = n.keys.length + 1 := by
    have hk := hok.kind
    have hlf := (Nd.refused_zero.1 hc).2
    unfold Nd.Kind at hk
    rw [if_neg (by rw [hlf]; decide)] at hk
    exact hk.2.2
  have H1 := hide (fun (v : World) (hb : Below u.heap.size u v) => nRefused n a false v (h.below hb))
  have H3 : Hid (∀ v : World, Below u.heap.size u v → Calls Try.prog 91 #[.slice a.ka n.keys.length a.kc, .int .i64 (i : Int), .int .i64 ((i + 1 : Nat) : Int), .slice none 0 0] v fun e u' => ∃ r, e = .returned r ∧ ∃ G c, r = .slice (some ⟨G, 0, none⟩) (n.shrink i).keys.length c ∧ v.heap.size ≤ G ∧ (RwK u' G (flatK (n.shrink i).keys) ∧ (n.shrink i).keys.length = c) ∧ Below v.heap.size v u') := fun v hb => by
    have h3 := nSplK (flatK n.keys) (flatK []) a.ka none n.keys.length a.kc 0 0 i (i + 1) v (h.below hb).keys (by simp [flatK]) (Lies.nil _ _) rfl (flatK_one _) (flatK_one _) h.cap.2.1 (by omega) (by omega) (by omega) (by decide)
    refine h3.mono ?_
    rintro e w' ⟨G, he, hG, hr, hb'⟩
    have hlen : (n.shrink i).keys.length = i + 0 + (n.keys.length - (i + 1)) := by
      simp only [Nd.shrink, List.length_append, List.length_take, List.length_drop]
      omega
    have hf : flatK (n.shrink i).keys = (flatK n.keys).take (i * 1) ++ (flatK [] ++ (flatK n.keys).drop ((i + 1) * 1)) := by simp [flatK, Nd.shrink, List.map_take, List.map_drop]
    exact ⟨_, he, G, i + 0 + (n.keys.length - (i + 1)), by rw [hlen], hG, ⟨by rw [hf]; exact hr, hlen⟩, hb'⟩
  have H4 : Hid (∀ v : World, Below u.heap.size u v → Calls Try.prog 92 #[.slice a.ga n.kids.length a.gc, .int .i64 ((i + 1 : Nat) : Int), .int .i64 ((i + 2 : Nat) : Int), .slice none 0 0] v fun e u' => ∃ r, e = .returned r ∧ ∃ G c, r = .slice (some ⟨G, 0, none⟩) (n.shrink i).kids.length c ∧ v.heap.size ≤ G ∧ (RwG u' G (flatG (n.shrink i).kids) ∧ (n.shrink i).kids.length = c) ∧ Below v.heap.size v u') := fun v hb => by
    have h3 := nSplG (flatG n.kids) (flatG []) a.ga none n.kids.length a.gc 0 0 (i + 1) (i + 2) v (h.below hb).kids (by simp [flatG]) (Lies.nil _ _) rfl (flatG_one _) (flatG_one _) h.cap.2.2 (by omega) (by omega) (by omega) (by decide)
    refine h3.mono ?_
    rintro e w' ⟨G, he, hG, hr, hb'⟩
    have hlen : (n.shrink i).kids.length = i + 1 + 0 + (n.kids.length - (i + 2)) := by
      simp only [Nd.shrink, List.length_append, List.length_take, List.length_drop]
      omega
    have hf : flatG (n.shrink i).kids = (flatG n.kids).take ((i + 1) * 1) ++ (flatG [] ++ (flatG n.kids).drop ((i + 2) * 1)) := by simp [flatG, Nd.shrink, List.map_take, List.map_drop]
    exact ⟨_, he, G, i + 1 + 0 + (n.kids.length - (i + 2)), by rw [hlen], hG, ⟨by rw [hf]; exact hr, hlen⟩, hb'⟩
  have HSH : Hid ((n.shrink i).leaf = false ∧ (n.shrink i).cells = []) := ⟨rfl, rfl⟩
  have HKD : Hid ((∀ k ∈ (n.shrink i).kids, k < 4294967296) ∧ (n.shrink i).keys.length ≤ 1992 ∧ (n.shrink i).kids.length ≤ 1993) := by
    refine ⟨fun k hk => ?_, ?_, ?_⟩
    · rcases List.mem_append.1 hk with hk | hk
      · exact h.kid k (List.mem_of_mem_take hk)
      · exact h.kid k (List.mem_of_mem_drop hk)
    · simp only [Nd.shrink, List.length_append, List.length_take, List.length_drop]; omega
    · simp only [Nd.shrink, List.length_append, List.length_take, List.length_drop]; omega
  have hii : (i : Int) < (n.keys.length : Int) := by omega
  have hil : (i : Int) ≤ 1992 := by omega
  clear h hok hle hkk hi
  obtain ⟨N, hN⟩ : ∃ N, N = u.heap.size := ⟨_, rfl⟩
  have HN := hide hN
  rw [← hN] at H1 H3 H4 ⊢
  clear hN
  rw [Nv.v_eq] at H1 ⊢
  rw [hc] at H1
  clear hc
  obtain ⟨ca, cc, ka, kc, ga, gc⟩ := a
  generalize n.shrink i = m at *
  generalize hk2 : m.keys.length = k2 at *
  generalize hg2 : m.kids.length = g2 at *
  have HK2 := hide hk2
  have HG2 := hide hg2
  clear hk2 hg2
  generalize n.cells.length = cn at *
  generalize n.keys.length = kn at *
  generalize n.kids.length = gn at *
  generalize n.leaf = lf at *
  have hc1 : ((i + 1 : Nat) : Int) = (i : Int) + 1 := by omega
  have hc2 : ((i + 2 : Nat) : Int) = (i : Int) + 2 := by omega
  go_enter Try.func48, Try.ntmps48
  go_wp2_with (first
    | ((with_reducible refine wpList_box_node (by rfl) (.tmp 0) (by rfl) (some 2) (by rfl) N (unhide HN) lf ca cn cc ka kn kc ga gn gc (by with_unfolding_all rfl) ?_); intro W0 HX0 HB0 HS0; simp only [Act.put, List.setIfInBounds_toArray, List.set_cons_zero, List.set_cons_succ])
    | ((with_reducible refine wpList_alloc_node (by rfl) (by rfl) (some 4) (by rfl) (N + 1) (unhide HS0).symm ?_); intro W1 HX1 HB1 HS1; simp only [Act.put, List.setIfInBounds_toArray, List.set_cons_zero, List.set_cons_succ]; have HX2 := hide (((unhide HB1).block N (Nat.lt_succ_self N)).trans (unhide HX0)); obtain ⟨y0, y1, y2, y3⟩ := box4 (unhide HX2))
    | fail)
  have HB2 : Hid (Below N u W1) := (unhide HB0).trans ((unhide HB1).mono (Nat.le_succ N))
  have HZ2 : Hid (N + 2 ≤ W1.heap.size) := by rw [unhide HS1]; exact Nat.le_refl _
  clear HX0 HB0 HS0 HB1 HS1
  refine (unhide H1 _ (unhide HB2)).mono ?_
  rintro e W3 ⟨rfl, hb3⟩
  have HB3 : Hid (Below N u W3) := (unhide HB2).trans (hb3.mono (by have := unhide HZ2; omega))
  have HX5 := hide (box_below (unhide HX2) hb3)
  have HX6 := hide (box_below (unhide HX1) hb3)
  clear hb3 y0 y1 y2 y3 HX2 HX1 HB2 HZ2
  obtain ⟨y0, y1, y2, y3⟩ := box4 (unhide HX5)
  go_wp2_with fail
  have hmix : Try.prog.follows .mixedOrders = true := by kernel_rfl
  have HR3 : Hid (W3.drew.heap[N + 1]? = some (.cells #[.bool false, .slice none 0 0, .slice none 0 0, .slice none 0 0] 26 (0, 0))) := unhide HX6
  refine wp_region_last (fun W => Below N u W ∧ W.heap[N]? = some (.cells #[.bool lf, .slice ca cn cc, .slice ka kn kc, .slice ga gn gc] 26 (0, 0))) 15 hmix ⟨belowDrewN (unhide HB3) 1, unhide HX5⟩ fun hS => ?_
  refine wpAnyL_take 0 23 (.pointer (some ⟨N, 2, none⟩)) [] rfl rfl (by kernel_rfl) (by kernel_rfl) (by kernel_rfl) (by kernel_rfl) (by kernel_rfl) (fun _ _ _ h => h) (by rfl) (fun u _ => by go_simp) hS ?_
  simp only [Act.put, List.setIfInBounds_toArray, List.set_cons_zero, List.set_cons_succ]
  refine wpAnyL_take 1 24 (.slice ka kn kc) [] rfl rfl (by kernel_rfl) (by kernel_rfl) (by kernel_rfl) (by kernel_rfl) (by kernel_rfl) (fun _ _ _ h => h) (by rfl) (fun W hW => by obtain ⟨x0, x1, x2, x3⟩ := box4 hW.2; go_simp) hS ?_
  simp only [Act.put, List.setIfInBounds_toArray, List.set_cons_zero, List.set_cons_succ]
  refine wpAnyL_take 2 25 (.int .i64 (i : Int)) [] rfl rfl (by kernel_rfl) (by kernel_rfl) (by kernel_rfl) (by kernel_rfl) (by kernel_rfl) (fun _ _ _ h => h) (by rfl) (fun u _ => by go_simp) hS ?_
  simp only [Act.put, List.setIfInBounds_toArray, List.set_cons_zero, List.set_cons_succ]
  refine wpAnyL_take 3 26 (.int .i64 (i : Int)) [] rfl rfl (by kernel_rfl) (by kernel_rfl) (by kernel_rfl) (by kernel_rfl) (by kernel_rfl) (fun _ _ _ h => h) (by rfl) (fun u _ => by go_simp) hS ?_
  simp only [Act.put, List.setIfInBounds_toArray, List.set_cons_zero, List.set_cons_succ]
  refine wpAnyL_take 4 27 (.int .i64 ((i + 1 : Nat) : Int)) [] rfl rfl (by kernel_rfl) (by kernel_rfl) (by kernel_rfl) (by kernel_rfl) (by kernel_rfl) (fun _ _ _ h => h) (by rfl) (fun W hW => by rw [hc1]; go_simp; rw [IntKind.wrap_i64]; omega) hS ?_
  simp only [Act.put, List.setIfInBounds_toArray, List.set_cons_zero, List.set_cons_succ]
  refine wpAnyL_take 6 29 (.pointer (some ⟨N, 3, none⟩)) [] rfl rfl (by kernel_rfl) (by kernel_rfl) (by kernel_rfl) (by kernel_rfl) (by kernel_rfl) (fun _ _ _ h => h) (by rfl) (fun u _ => by go_simp) hS ?_
  simp only [Act.put, List.setIfInBounds_toArray, List.set_cons_zero, List.set_cons_succ]
  refine wpAnyL_take 7 30 (.slice ga gn gc) [] rfl rfl (by kernel_rfl) (by kernel_rfl) (by kernel_rfl) (by kernel_rfl) (by kernel_rfl) (fun _ _ _ h => h) (by rfl) (fun W hW => by obtain ⟨x0, x1, x2, x3⟩ := box4 hW.2; go_simp) hS ?_
  simp only [Act.put, List.setIfInBounds_toArray, List.set_cons_zero, List.set_cons_succ]
  refine wpAnyL_take 8 31 (.int .i64 (i : Int)) [] rfl rfl (by kernel_rfl) (by kernel_rfl) (by kernel_rfl) (by kernel_rfl) (by kernel_rfl) (fun _ _ _ h => h) (by rfl) (fun u _ => by go_simp) hS ?_
  simp only [Act.put, List.setIfInBounds_toArray, List.set_cons_zero, List.set_cons_succ]
  refine wpAnyL_take 9 32 (.int .i64 ((i + 1 : Nat) : Int)) [] rfl rfl (by kernel_rfl) (by kernel_rfl) (by kernel_rfl) (by kernel_rfl) (by kernel_rfl) (fun _ _ _ h => h) (by rfl) (fun W hW => by rw [hc1]; go_simp; rw [IntKind.wrap_i64]; omega) hS ?_
  simp only [Act.put, List.setIfInBounds_toArray, List.set_cons_zero, List.set_cons_succ]
  refine wpAnyL_take 10 33 (.int .i64 (i : Int)) [] rfl rfl (by kernel_rfl) (by kernel_rfl) (by kernel_rfl) (by kernel_rfl) (by kernel_rfl) (fun _ _ _ h => h) (by rfl) (fun u _ => by go_simp) hS ?_
  simp only [Act.put, List.setIfInBounds_toArray, List.set_cons_zero, List.set_cons_succ]
  refine wpAnyL_take 11 34 (.int .i64 ((i + 2 : Nat) : Int)) [] rfl rfl (by kernel_rfl) (by kernel_rfl) (by kernel_rfl) (by kernel_rfl) (by kernel_rfl) (fun _ _ _ h => h) (by rfl) (fun W hW => by rw [hc2]; go_simp; rw [IntKind.wrap_i64]; omega) hS ?_
  simp only [Act.put, List.setIfInBounds_toArray, List.set_cons_zero, List.set_cons_succ]
  refine wpAnyL_one (i := 5) (by kernel_rfl) rfl (by rfl) fun K hK => ?_
  refine wp_call_fn 91 _ _ (by rfl) #[.slice ka kn kc, .int .i64 (i : Int), .int .i64 ((i + 1 : Nat) : Int), .slice none 0 0] (by with_unfolding_all rfl) entK (some 28) (by rfl) _ (unhide H3 _ hS.1) ?_
  rintro _ W4 ⟨G, c4, rfl, hG, hl4, hb4⟩
  have HS4 : Hid (Below N u W4 ∧ W4.heap[N]? = some (.cells #[.bool lf, .slice ca cn cc, .slice ka kn kc, .slice ga gn gc] 26 (0, 0))) := ⟨hS.1.trans (hb4.mono (by have := (Array.getElem?_eq_some_iff.1 (unhide HR3)).1; omega)), box_below hS.2 hb4⟩
  have HR4 := hide (box_below (unhide HR3) hb4)
  have HF4 : Hid (N + 2 ≤ G) := by have h1 := (Array.getElem?_eq_some_iff.1 (unhide HR3)).1; have : N + 2 ≤ G := by omega
                                   exact this
  have HL4 := hide hl4
  refine hK _ _ (fun _ => unhide HS4) ?_
  clear hK K hS hG hl4 hb4
  have hS := unhide HS4
  simp only [Act.put, List.setIfInBounds_toArray, List.set_cons_zero, List.set_cons_succ]
  refine wpAnyL_one (i := 12) (by kernel_rfl) rfl (by rfl) fun K hK => ?_
  refine wp_call_fn 92 _ _ (by rfl) #[.slice ga gn gc, .int .i64 ((i + 1 : Nat) : Int), .int .i64 ((i + 2 : Nat) : Int), .slice none 0 0] (by with_unfolding_all rfl) entG (some 35) (by rfl) _ (unhide H4 _ hS.1) ?_
  rintro _ W5 ⟨G2, c5, rfl, hG, hl5, hb5⟩
  have HS5 : Hid (Below N u W5 ∧ W5.heap[N]? = some (.cells #[.bool lf, .slice ca cn cc, .slice ka kn kc, .slice ga gn gc] 26 (0, 0))) := ⟨hS.1.trans (hb5.mono (by have := (Array.getElem?_eq_some_iff.1 (unhide HR4)).1; omega)), box_below hS.2 hb5⟩
  have HR5 := hide (box_below (unhide HR4) hb5)
  have HF5 : Hid (N + 2 ≤ G2) := by have h1 := (Array.getElem?_eq_some_iff.1 (unhide HR4)).1; have : N + 2 ≤ G2 := by omega
                                    exact this
  have HL5 := hide hl5
  have HL4' := hide ((unhide HL4).1.below hb5)
  refine hK _ _ (fun _ => unhide HS5) ?_
  clear hK K hS hG hl5 hb5 HS4
  have hS := unhide HS5
  simp only [Act.put, List.setIfInBounds_toArray, List.set_cons_zero, List.set_cons_succ]
  refine wpAnyL_one (i := 13) (by kernel_rfl) rfl (by rfl) fun K hK => ?_
  refine wp_val (.agg #[.bool false, .slice none 0 0, .slice (some ⟨G, 0, none⟩) k2 c4, .slice (some ⟨G2, 0, none⟩) g2 c5]) (by go_simp) (some 36) (by rfl) ?_
  refine hK _ _ (fun _ => hS) ?_
  clear hK K
  simp only [Act.put, List.setIfInBounds_toArray, List.set_cons_zero, List.set_cons_succ]
  refine wpAnyL_one (i := 14) (by kernel_rfl) rfl (by rfl) fun K hK => ?_
  refine wp_store_row 26 (.tmp 4) (.tmp 36) (by rfl) (N + 1) #[.bool false, .slice none 0 0, .slice (some ⟨G, 0, none⟩) k2 c4, .slice (some ⟨G2, 0, none⟩) g2 c5] (by rfl) (by rfl) 26 _ (unhide HR5) nodeInfo rfl (node_one _ _ _ _ _ _ _ _ _ _) ?_
  obtain ⟨W8, HE8⟩ : ∃ W8, W8 = W5.setRow (N + 1) #[.bool false, .slice none 0 0, .slice (some ⟨G, 0, none⟩) k2 c4, .slice (some ⟨G2, 0, none⟩) g2 c5] := ⟨_, rfl⟩
  have HX8 : Hid (W8.heap[N + 1]? = some (.cells #[.bool false, .slice none 0 0, .slice (some ⟨G, 0, none⟩) k2 c4, .slice (some ⟨G2, 0, none⟩) g2 c5] 26 (0, 0))) := by rw [HE8]; exact heapRow_same (unhide HR5) _
  have HZ : Hid (Below N u W8 ∧ RwK W8 G (flatK m.keys) ∧ RwG W8 G2 (flatG m.kids)) := by
    rw [HE8]
    exact ⟨belowRow hS.1 (Nat.le_succ N) _, (unhide HL4').setRow (N + 1) _ (fun b o e => by cases e; have := unhide HF4; omega), (unhide HL5).1.setRow (N + 1) _ (fun b o e => by cases e; have := unhide HF5; omega)⟩
  rw [← HE8]
  refine hK _ _ (fun _ => ⟨(unhide HZ).1, by rw [HE8]; exact (heapRow_other _ _ _ _ (by omega)).trans hS.2⟩) ?_
  clear hK K hS HE8 HR5 HR4 HS5
  simp only [Act.put, List.setIfInBounds_toArray]
  refine wpAnyL_one (i := 15) (by kernel_rfl) rfl (by rfl) fun K hK => ?_
  refine wp_val (.int .i64 0) (by go_simp) (some 5) (by rfl) ?_
  refine hK _ _ (fun h => absurd rfl h) ?_
  clear hK K
  simp only [Act.put]
  refine wpAnyL_done (by kernel_rfl) ?_ _
  go_wp2
  refine bodyPost_ret (results_cell_tmp rfl _ _ (N + 1) 26 #[.bool false, .slice none 0 0, .slice (some ⟨G, 0, none⟩) k2 c4, .slice (some ⟨G2, 0, none⟩) g2 c5] (0, 0) _ rfl (unhide HX8) nodeUnd rfl nodeInfo) rfl ?_
  refine ⟨⟨none, 0, some ⟨G, 0, none⟩, c4, some ⟨G2, 0, none⟩, c5⟩, ?_, ⟨?_, ?_, ?_⟩, (unhide HZ).1⟩
  · rw [Nv.v_eq, (unhide HSH).1, (unhide HSH).2, unhide HK2, unhide HG2]; rfl
  · rw [(unhide HSH).2]; exact World.ownsRow_nil _ _ _ _
  · have h1 := (unhide HKD).2
    have h2 := unhide HF4
    have h3 := (unhide HL4).2
    exact (unhide HZ).2.1.own (by rw [unhide HK2]; exact h3) (by omega) (by show c4 ≤ 1000000; omega)
  · have h1 := (unhide HKD).2
    have h2 := unhide HF5
    have h3 := (unhide HL5).2
    exact (unhide HZ).2.2.own (by rw [unhide HG2]; exact h3) (by omega) (by show c5 ≤ 1000000; omega)
end
section
open Go.RowKit
def GrowRO (w' : World) (B : Nat) (m : Nd) (V : Value) (E : Int) : Prop :=
  (m.check = 0 ∧ E = 0 ∧ ∃ b : Nv, V = b.v m ∧ Ow w' B m.cells m.keys m.kids b) ∨ (m.check ≠ 0 ∧ E = m.check ∧ V = zeroV)
open Classical in
set_option maxRecDepth 100000 in
set_option maxHeartbeats 8000000 in
theorem nGrowO (n : Nd) (a : Nv) (i : Nat) (key : ByteArray) (kid : Nat) (u : World) (h : NdAt u n a) (hc : n.refused false = 0) (hi : i < n.kids.length) (hkey : keyOk key) (hkid : kid ≠ 0) (hkl : kid < 4294967296) : Calls Try.prog 44 #[a.v n, .int .i64 (i : Int), .string key, .int .u32 (kid : Int)] u fun e u' => ∃ V E, e = .returned (.tuple #[V, .int .i64 E]) ∧ GrowRO u' u.heap.size (n.grow i key kid) V E ∧ Below u.heap.size u u' := by
  have hok := (Nd.refused_zero.1 hc).1
  have hle := hok.lens
  have hkk : n.kids.length = n.keys.length + 1 := by
    have hk := hok.kind
    have hlf := (Nd.refused_zero.1 hc).2
    unfold Nd.Kind at hk
    rw [if_neg (by rw [hlf]; decide)] at hk
    exact hk.2.2
  have H1 := hide (fun (v : World) (hb : Below u.heap.size u v) => nRefused n a false v (h.below hb))
  have H2 := hide (fun v : World => nKeyMay key v)
  rw [decide_eq_true hkey] at H2
  have H3 : Hid (∀ (v : World) (B : Nat), Below u.heap.size u v → Lies v (some ⟨B, 0, none⟩) [.string key] → Calls Try.prog 91 #[.slice a.ka n.keys.length a.kc, .int .i64 (i : Int), .int .i64 (i : Int), .slice (some ⟨B, 0, none⟩) 1 1] v fun e u' => ∃ r, e = .returned r ∧ ∃ G c, r = .slice (some ⟨G, 0, none⟩) (n.grow i key kid).keys.length c ∧ v.heap.size ≤ G ∧ (RwK u' G (flatK (n.grow i key kid).keys) ∧ (n.grow i key kid).keys.length = c) ∧ Below v.heap.size v u') := fun v B hb hB => by
    have h3 := nSplK (flatK n.keys) (flatK [key]) a.ka (some ⟨B, 0, none⟩) n.keys.length a.kc 1 1 i i v (h.below hb).keys (by simp [flatK]) hB rfl (flatK_one _) (flatK_one _) h.cap.2.1 (by omega) (by omega) (by omega) (by decide)
    refine h3.mono ?_
    rintro e w' ⟨G, he, hG, hr, hb'⟩
    have hlen : (n.grow i key kid).keys.length = i + 1 + (n.keys.length - i) := by
      simp only [Nd.grow, List.length_append, List.length_take, List.length_drop, List.length_cons]
      omega
    have hf : flatK (n.grow i key kid).keys = (flatK n.keys).take (i * 1) ++ (flatK [key] ++ (flatK n.keys).drop (i * 1)) := by simp [flatK, Nd.grow, List.map_take, List.map_drop]
    exact ⟨_, he, G, i + 1 + (n.keys.length - i), by rw [hlen], hG, ⟨by rw [hf]; exact hr, hlen⟩, hb'⟩
  have H4 : Hid (∀ (v : World) (B : Nat), Below u.heap.size u v → Lies v (some ⟨B, 0, none⟩) [.int .u32 (kid : Int)] → Calls Try.prog 92 #[.slice a.ga n.kids.length a.gc, .int .i64 ((i + 1 : Nat) : Int), .int .i64 ((i + 1 : Nat) : Int), .slice (some ⟨B, 0, none⟩) 1 1] v fun e u' => ∃ r, e = .returned r ∧ ∃ G c, r = .slice (some ⟨G, 0, none⟩) (n.grow i key kid).kids.length c ∧ v.heap.size ≤ G ∧ (RwG u' G (flatG (n.grow i key kid).kids) ∧ (n.grow i key kid).kids.length = c) ∧ Below v.heap.size v u') := fun v B hb hB => by
    have h3 := nSplG (flatG n.kids) (flatG [kid]) a.ga (some ⟨B, 0, none⟩) n.kids.length a.gc 1 1 (i + 1) (i + 1) v (h.below hb).kids (by simp [flatG]) hB rfl (flatG_one _) (flatG_one _) h.cap.2.2 (by omega) (by omega) (by omega) (by decide)
    refine h3.mono ?_
    rintro e w' ⟨G, he, hG, hr, hb'⟩
    have hlen : (n.grow i key kid).kids.length = i + 1 + 1 + (n.kids.length - (i + 1)) := by
      simp only [Nd.grow, List.length_append, List.length_take, List.length_drop, List.length_cons]
      omega
    have hf : flatG (n.grow i key kid).kids = (flatG n.kids).take ((i + 1) * 1) ++ (flatG [kid] ++ (flatG n.kids).drop ((i + 1) * 1)) := by simp [flatG, Nd.grow, List.map_take, List.map_drop]
    exact ⟨_, he, G, i + 1 + 1 + (n.kids.length - (i + 1)), by rw [hlen], hG, ⟨by rw [hf]; exact hr, hlen⟩, hb'⟩
  have hnd : ∀ (w : World) (G c G2 c2 : Nat), RwK w G (flatK (n.grow i key kid).keys) → (n.grow i key kid).keys.length = c → RwG w G2 (flatG (n.grow i key kid).kids) → (n.grow i key kid).kids.length = c2 → NdAt w (n.grow i key kid) ⟨none, 0, some ⟨G, 0, none⟩, c, some ⟨G2, 0, none⟩, c2⟩ := fun w G c G2 c2 l1 e1 l2 e2 => by
    refine ⟨Lies.nil _ _, l1.lies, l2.lies, fun k hk => ?_, ⟨by simp [Nd.grow], ?_, ?_⟩, (fun c hc => by cases hc), ⟨Nat.le_refl _, Nat.le_of_eq e1, Nat.le_of_eq e2⟩⟩
    · rcases List.mem_append.1 hk with hk | hk
      · exact h.kid k (List.mem_of_mem_take hk)
      · rcases List.mem_cons.1 hk with rfl | hk
        · exact hkl
        · exact h.kid k (List.mem_of_mem_drop hk)
    · simp only [Nd.grow, List.length_append, List.length_take, List.length_drop, List.length_cons]; omega
    · simp only [Nd.grow, List.length_append, List.length_take, List.length_drop, List.length_cons]; omega
  have H5 : Hid (∀ (w : World) (G c G2 c2 : Nat), RwK w G (flatK (n.grow i key kid).keys) → (n.grow i key kid).keys.length = c → RwG w G2 (flatG (n.grow i key kid).kids) → (n.grow i key kid).kids.length = c2 → Calls Try.prog 87 #[.agg #[.bool false, .slice none 0 0, .slice (some ⟨G, 0, none⟩) (n.grow i key kid).keys.length c, .slice (some ⟨G2, 0, none⟩) (n.grow i key kid).kids.length c2]] w fun e w' => ∃ r, e = .returned r ∧ ∃ (ko : Option Addr) (kq kp : Nat) (go : Option Addr) (gq gp : Nat) (E : Int), r = .tuple #[.agg #[.bool false, .slice none 0 0, .slice ko kq kp, .slice go gq gp], .int .i64 E] ∧ (((n.grow i key kid).check = 0 ∧ E = 0 ∧ ko = some ⟨G, 0, none⟩ ∧ kq = (n.grow i key kid).keys.length ∧ kp = c ∧ go = some ⟨G2, 0, none⟩ ∧ gq = (n.grow i key kid).kids.length ∧ gp = c2) ∨ ((n.grow i key kid).check ≠ 0 ∧ E = (n.grow i key kid).check ∧ ko = none ∧ kq = 0 ∧ kp = 0 ∧ go = none ∧ gq = 0 ∧ gp = 0)) ∧ Below w.heap.size w w') := fun w G c G2 c2 l1 e1 l2 e2 => by
    refine (nChecked (n.grow i key kid) _ w (hnd w G c G2 c2 l1 e1 l2 e2)).mono ?_
    rintro e w' ⟨hz, hnz, hb⟩
    by_cases h0 : (n.grow i key kid).check = 0
    · exact ⟨_, hz h0, _, _, _, _, _, _, 0, rfl, .inl ⟨h0, rfl, rfl, rfl, rfl, rfl, rfl, rfl⟩, hb⟩
    · exact ⟨_, hnz h0, none, 0, 0, none, 0, 0, _, rfl, .inr ⟨h0, rfl, rfl, rfl, rfl, rfl, rfl, rfl⟩, hb⟩
  have hkb : (n.grow i key kid).keys.length ≤ 1000000 ∧ (n.grow i key kid).kids.length ≤ 1000000 := by
    simp only [Nd.grow, List.length_append, List.length_take, List.length_drop, List.length_cons]; omega
  have HFIN : Hid (∀ (w' : World) (B G c G2 c2 : Nat) (ko : Option Addr) (kq kp : Nat) (go : Option Addr) (gq gp : Nat) (E : Int), (((n.grow i key kid).check = 0 ∧ E = 0 ∧ ko = some ⟨G, 0, none⟩ ∧ kq = (n.grow i key kid).keys.length ∧ kp = c ∧ go = some ⟨G2, 0, none⟩ ∧ gq = (n.grow i key kid).kids.length ∧ gp = c2) ∨ ((n.grow i key kid).check ≠ 0 ∧ E = (n.grow i key kid).check ∧ ko = none ∧ kq = 0 ∧ kp = 0 ∧ go = none ∧ gq = 0 ∧ gp = 0)) → RwK w' G (flatK (n.grow i key kid).keys) → (n.grow i key kid).keys.length = c → RwG w' G2 (flatG (n.grow i key kid).kids) → (n.grow i key kid).kids.length = c2 → B + 2 ≤ G → B + 2 ≤ G2 → GrowRO w' B (n.grow i key kid) (.agg #[.bool false, .slice none 0 0, .slice ko kq kp, .slice go gq gp]) E) := fun w' B G c G2 c2 ko kq kp go gq gp E hE l1 e1 l2 e2 q1 q2 => by
    rcases hE with ⟨h0, rfl, rfl, rfl, rfl, rfl, rfl, rfl⟩ | ⟨h0, rfl, rfl, rfl, rfl, rfl, rfl, rfl⟩
    · exact .inl ⟨h0, rfl, ⟨none, 0, some ⟨G, 0, none⟩, _, some ⟨G2, 0, none⟩, _⟩, rfl, World.ownsRow_nil _ _ _ _, l1.own e1 (by omega) (by rw [← e1]; exact hkb.1), l2.own e2 (by omega) (by rw [← e2]; exact hkb.2)⟩
    · exact .inr ⟨h0, rfl, rfl⟩
  have hii : (i : Int) < (n.kids.length : Int) := by omega
  have hil : (i : Int) ≤ 1993 := by omega
  have hkz : ¬ (kid : Int) = 0 := by omega
  clear h hok hle hkk hi hnd hkb hkey hkid hkl
  obtain ⟨N, hN⟩ : ∃ N, N = u.heap.size := ⟨_, rfl⟩
  have HN := hide hN
  rw [← hN] at H1 H3 H4 ⊢
  clear hN
  rw [Nv.v_eq] at H1 ⊢
  rw [hc] at H1
  clear hc
  obtain ⟨ca, cc, ka, kc, ga, gc⟩ := a
  generalize n.grow i key kid = m at *
  generalize m.keys.length = k2 at *
  generalize m.kids.length = g2 at *
  generalize n.cells.length = cn at *
  generalize n.keys.length = kn at *
  generalize n.kids.length = gn at *
  generalize n.leaf = lf at *
  have hc1 : ((i + 1 : Nat) : Int) = (i : Int) + 1 := by omega
  have hi0 : ¬ (i : Int) < 0 := by omega
  have hi1 : ¬ gn ≤ i := by omega
  have hz0 : ((kid : Int) == 0) = false := beq_false_of_ne hkz
  go_enter Try.func44, Try.ntmps44
  go_wp2_with (first
    | ((with_reducible refine wpList_box_node (by rfl) (.tmp 0) (by rfl) (some 4) (by rfl) N (unhide HN) lf ca cn cc ka kn kc ga gn gc (by with_unfolding_all rfl) ?_); intro W0 HX0 HB0 HS0; simp only [Act.put, List.setIfInBounds_toArray, List.set_cons_zero, List.set_cons_succ])
    | ((with_reducible refine wpList_alloc_node (by rfl) (by rfl) (some 8) (by rfl) (N + 1) (unhide HS0).symm ?_); intro W1 HX1 HB1 HS1; simp only [Act.put, List.setIfInBounds_toArray, List.set_cons_zero, List.set_cons_succ]; have HX2 := hide (((unhide HB1).block N (Nat.lt_succ_self N)).trans (unhide HX0)); obtain ⟨y0, y1, y2, y3⟩ := box4 (unhide HX2))
    | fail)
  have HG1 : Hid (Gs u W1 N (.cells #[.bool lf, .slice ca cn cc, .slice ka kn kc, .slice ga gn gc] 26 (0, 0)) (.cells #[.bool false, .slice none 0 0, .slice none 0 0, .slice none 0 0] 26 (0, 0))) := ⟨⟨(unhide HB0).trans ((unhide HB1).mono (Nat.le_succ N)), unhide HX2⟩, unhide HX1⟩
  clear HX0 HB0 HS0 HB1 HS1 HX1 HX2
  refine (unhide H1 _ (unhide HG1).1.1).mono ?_
  rintro e W3 ⟨rfl, hb3⟩
  have HG3 := hide ((unhide HG1).below hb3)
  clear hb3 y0 y1 y2 y3 HG1
  obtain ⟨y0, y1, y2, y3⟩ := box4 (unhide HG3).1.2
  go_wp2_with fail
  refine (unhide H2 _).mono ?_
  rintro e W4 ⟨rfl, hw4⟩
  obtain rfl := hw4.symm
  clear hw4
  go_wp2_with fail
  have hmix : Try.prog.follows .mixedOrders = true := by kernel_rfl
  obtain ⟨X0, hX0⟩ : ∃ X, X = W3.drew := ⟨_, rfl⟩
  have HGX0 : Hid (Gs u X0 N (.cells #[.bool lf, .slice ca cn cc, .slice ka kn kc, .slice ga gn gc] 26 (0, 0)) (.cells #[.bool false, .slice none 0 0, .slice none 0 0, .slice none 0 0] 26 (0, 0))) := by rw [hX0]; exact ⟨⟨belowDrewN (unhide HG3).1.1 1, (unhide HG3).1.2⟩, (unhide HG3).2⟩
  refine wp_region_last (fun W => Below N u W ∧ W.heap[N]? = some (.cells #[.bool lf, .slice ca cn cc, .slice ka kn kc, .slice ga gn gc] 26 (0, 0))) 21 hmix (by rw [← hX0]; exact (unhide HGX0).1) fun hS => ?_
  rw [← hX0] at hS ⊢
  clear HG3 hX0 y0 y1 y2 y3
  refine wpAnyL_take 0 36 (.pointer (some ⟨N, 2, none⟩)) [] rfl rfl (by kernel_rfl) (by kernel_rfl) (by kernel_rfl) (by kernel_rfl) (by kernel_rfl) (fun _ _ _ h => h) (by rfl) (fun u _ => by go_simp) hS ?_
  simp only [Act.put, List.setIfInBounds_toArray, List.set_cons_zero, List.set_cons_succ]
  refine wpAnyL_take 1 37 (.slice ka kn kc) [] rfl rfl (by kernel_rfl) (by kernel_rfl) (by kernel_rfl) (by kernel_rfl) (by kernel_rfl) (fun _ _ _ h => h) (by rfl) (fun W hW => by obtain ⟨x0, x1, x2, x3⟩ := box4 hW.2; go_simp) hS ?_
  simp only [Act.put, List.setIfInBounds_toArray, List.set_cons_zero, List.set_cons_succ]
  refine wpAnyL_take 2 38 (.int .i64 (i : Int)) [] rfl rfl (by kernel_rfl) (by kernel_rfl) (by kernel_rfl) (by kernel_rfl) (by kernel_rfl) (fun _ _ _ h => h) (by rfl) (fun u _ => by go_simp) hS ?_
  simp only [Act.put, List.setIfInBounds_toArray, List.set_cons_zero, List.set_cons_succ]
  refine wpAnyL_take 3 39 (.int .i64 (i : Int)) [] rfl rfl (by kernel_rfl) (by kernel_rfl) (by kernel_rfl) (by kernel_rfl) (by kernel_rfl) (fun _ _ _ h => h) (by rfl) (fun u _ => by go_simp) hS ?_
  simp only [Act.put, List.setIfInBounds_toArray, List.set_cons_zero, List.set_cons_succ]
  refine wpAnyL_take 4 40 (.string key) [] rfl rfl (by kernel_rfl) (by kernel_rfl) (by kernel_rfl) (by kernel_rfl) (by kernel_rfl) (fun _ _ _ h => h) (by rfl) (fun u _ => by go_simp) hS ?_
  simp only [Act.put, List.setIfInBounds_toArray, List.set_cons_zero, List.set_cons_succ]
  refine wpAnyL_take 7 43 (.pointer (some ⟨N, 3, none⟩)) [] rfl rfl (by kernel_rfl) (by kernel_rfl) (by kernel_rfl) (by kernel_rfl) (by kernel_rfl) (fun _ _ _ h => h) (by rfl) (fun u _ => by go_simp) hS ?_
  simp only [Act.put, List.setIfInBounds_toArray, List.set_cons_zero, List.set_cons_succ]
  refine wpAnyL_take 8 44 (.slice ga gn gc) [] rfl rfl (by kernel_rfl) (by kernel_rfl) (by kernel_rfl) (by kernel_rfl) (by kernel_rfl) (fun _ _ _ h => h) (by rfl) (fun W hW => by obtain ⟨x0, x1, x2, x3⟩ := box4 hW.2; go_simp) hS ?_
  simp only [Act.put, List.setIfInBounds_toArray, List.set_cons_zero, List.set_cons_succ]
  refine wpAnyL_take 9 45 (.int .i64 (i : Int)) [] rfl rfl (by kernel_rfl) (by kernel_rfl) (by kernel_rfl) (by kernel_rfl) (by kernel_rfl) (fun _ _ _ h => h) (by rfl) (fun u _ => by go_simp) hS ?_
  simp only [Act.put, List.setIfInBounds_toArray, List.set_cons_zero, List.set_cons_succ]
  refine wpAnyL_take 10 46 (.int .i64 ((i + 1 : Nat) : Int)) [] rfl rfl (by kernel_rfl) (by kernel_rfl) (by kernel_rfl) (by kernel_rfl) (by kernel_rfl) (fun _ _ _ h => h) (by rfl) (fun W hW => by rw [hc1]; go_simp; rw [IntKind.wrap_i64]; omega) hS ?_
  simp only [Act.put, List.setIfInBounds_toArray, List.set_cons_zero, List.set_cons_succ]
  refine wpAnyL_take 11 47 (.int .i64 (i : Int)) [] rfl rfl (by kernel_rfl) (by kernel_rfl) (by kernel_rfl) (by kernel_rfl) (by kernel_rfl) (fun _ _ _ h => h) (by rfl) (fun u _ => by go_simp) hS ?_
  simp only [Act.put, List.setIfInBounds_toArray, List.set_cons_zero, List.set_cons_succ]
  refine wpAnyL_take 12 48 (.int .i64 ((i + 1 : Nat) : Int)) [] rfl rfl (by kernel_rfl) (by kernel_rfl) (by kernel_rfl) (by kernel_rfl) (by kernel_rfl) (fun _ _ _ h => h) (by rfl) (fun W hW => by rw [hc1]; go_simp; rw [IntKind.wrap_i64]; omega) hS ?_
  simp only [Act.put, List.setIfInBounds_toArray, List.set_cons_zero, List.set_cons_succ]
  refine wpAnyL_take 13 49 (.int .u32 (kid : Int)) [] rfl rfl (by kernel_rfl) (by kernel_rfl) (by kernel_rfl) (by kernel_rfl) (by kernel_rfl) (fun _ _ _ h => h) (by rfl) (fun u _ => by go_simp) hS ?_
  simp only [Act.put, List.setIfInBounds_toArray, List.set_cons_zero, List.set_cons_succ]
  refine wpAnyL_two (i := 5) (j := 14) (by kernel_rfl) rfl rfl (by rfl) (by rfl) (fun K hK => ?_) (fun K hK => ?_)
  · refine wp_buildTo (by rfl) _ _ (by simp only [List.map_toArray, List.map_cons, List.map_nil]; exact bsK X0 _) (some 41) (by rfl) ?_
    obtain ⟨X1, hw2⟩ : ∃ X, X = X0.alloc (.cells #[.string key] 9) := ⟨_, rfl⟩
    obtain ⟨B1, hb2⟩ : ∃ X, X = X0.heap.size := ⟨_, rfl⟩
    have hbe : Below X0.heap.size X0 X1 := by rw [hw2]; exact (Below.refl _ _).alloc (Nat.le_refl _) _
    have HGX1 := hide ((unhide HGX0).below hbe)
    have HQ : Hid (Lies X1 (some ⟨B1, 0, none⟩) [.string key]) := by rw [hw2, hb2]; exact Lies.row (heap_alloc_new _ _)
    rw [← hw2, ← hb2]
    refine hK _ _ (fun _ => (unhide HGX1).1) ?_
    clear hK K hw2 hb2 hbe
    simp only [Act.put, List.setIfInBounds_toArray, List.set_cons_zero, List.set_cons_succ]
    refine wpAnyL_two (i := 6) (j := 14) (by kernel_rfl) rfl rfl (by rfl) (by rfl) (fun K hK => ?_) (fun K hK => ?_)
    · refine wp_call_fn 91 _ _ (by rfl) #[.slice ka kn kc, .int .i64 (i : Int), .int .i64 (i : Int), .slice (some ⟨B1, 0, none⟩) 1 1] (by with_unfolding_all rfl) entK (some 42) (by rfl) _ (unhide H3 _ _ (unhide HGX1).1.1 (unhide HQ)) ?_
      rintro _ X2 ⟨G, c4, rfl, hG, hl4, hbe⟩
      have HGX2 := hide ((unhide HGX1).below hbe)
      have HF4 : Hid (N + 2 ≤ G) := hide (Nat.le_trans (unhide HGX1).sz hG)
      have HL4 := hide hl4
      refine hK _ _ (fun _ => (unhide HGX2).1) ?_
      clear hK K hG hl4 hbe
      simp only [Act.put, List.setIfInBounds_toArray, List.set_cons_zero, List.set_cons_succ]
      refine wpAnyL_one (i := 14) (by kernel_rfl) rfl (by rfl) fun K hK => ?_
      refine wp_buildTo (by rfl) _ _ (by simp only [List.map_toArray, List.map_cons, List.map_nil]; exact bsG X2 _) (some 50) (by rfl) ?_
      obtain ⟨X3, hw2⟩ : ∃ X, X = X2.alloc (.cells #[.int .u32 (kid : Int)] 50) := ⟨_, rfl⟩
      obtain ⟨B2, hb2⟩ : ∃ X, X = X2.heap.size := ⟨_, rfl⟩
      have hbe : Below X2.heap.size X2 X3 := by rw [hw2]; exact (Below.refl _ _).alloc (Nat.le_refl _) _
      have HGX3 := hide ((unhide HGX2).below hbe)
      have HV : Hid (Lies X3 (some ⟨B2, 0, none⟩) [.int .u32 (kid : Int)]) := by rw [hw2, hb2]; exact Lies.row (heap_alloc_new _ _)
      have HL4 := hide (And.intro ((unhide HL4).1.below hbe) (unhide HL4).2)
      rw [← hw2, ← hb2]
      refine hK _ _ (fun _ => (unhide HGX3).1) ?_
      clear hK K hw2 hb2 hbe
      simp only [Act.put, List.setIfInBounds_toArray, List.set_cons_zero, List.set_cons_succ]
      refine wpAnyL_one (i := 15) (by kernel_rfl) rfl (by rfl) fun K hK => ?_
      refine wp_call_fn 92 _ _ (by rfl) #[.slice ga gn gc, .int .i64 ((i + 1 : Nat) : Int), .int .i64 ((i + 1 : Nat) : Int), .slice (some ⟨B2, 0, none⟩) 1 1] (by with_unfolding_all rfl) entG (some 51) (by rfl) _ (unhide H4 _ _ (unhide HGX3).1.1 (unhide HV)) ?_
      rintro _ W5 ⟨G2, c5, rfl, hG, hl5, hbe⟩
      have HGW5 := hide ((unhide HGX3).below hbe)
      have HF5 : Hid (N + 2 ≤ G2) := hide (Nat.le_trans (unhide HGX3).sz hG)
      have HL5 := hide hl5
      have HL4b := hide ((unhide HL4).1.below hbe)
      refine hK _ _ (fun _ => (unhide HGW5).1) ?_
      clear hK K hG hl5 hbe
      simp only [Act.put, List.setIfInBounds_toArray, List.set_cons_zero, List.set_cons_succ]
      refine wpAnyL_one (i := 16) (by kernel_rfl) rfl (by rfl) fun K hK => ?_
      refine wp_val (.agg #[.bool false, .slice none 0 0, .slice (some ⟨G, 0, none⟩) k2 c4, .slice (some ⟨G2, 0, none⟩) g2 c5]) (by go_simp) (some 52) (by rfl) ?_
      refine hK _ _ (fun _ => (unhide HGW5).1) ?_
      clear hK K
      simp only [Act.put, List.setIfInBounds_toArray, List.set_cons_zero, List.set_cons_succ]
      refine wpAnyL_one (i := 17) (by kernel_rfl) rfl (by rfl) fun K hK => ?_
      refine wp_call_fn 87 _ _ (by rfl) #[.agg #[.bool false, .slice none 0 0, .slice (some ⟨G, 0, none⟩) k2 c4, .slice (some ⟨G2, 0, none⟩) g2 c5]] (by with_unfolding_all rfl) entC (some 53) (by rfl) _ (unhide H5 W5 G c4 G2 c5 (unhide HL4b) (unhide HL4).2 (unhide HL5).1 (unhide HL5).2) ?_
      rintro _ W6 ⟨ko, kq, kp, go, gq, gp, E, rfl, hE, hbe⟩
      have HGW6 := hide ((unhide HGW5).below hbe)
      have HE := hide hE
      have HLA := hide ((unhide HL4b).below hbe)
      have HLB := hide ((unhide HL5).1.below hbe)
      refine hK _ _ (fun _ => (unhide HGW6).1) ?_
      clear hK K hE hbe
      simp only [Act.put, List.setIfInBounds_toArray, List.set_cons_zero, List.set_cons_succ]
      refine wpAnyL_take 18 54 (.agg #[.bool false, .slice none 0 0, .slice ko kq kp, .slice go gq gp]) [] rfl rfl (by kernel_rfl) (by kernel_rfl) (by kernel_rfl) (by kernel_rfl) (by kernel_rfl) (fun _ _ _ h => h) (by rfl) (fun u _ => by go_simp) (unhide HGW6).1 ?_
      simp only [Act.put, List.setIfInBounds_toArray, List.set_cons_zero, List.set_cons_succ]
      refine wpAnyL_one (i := 19) (by kernel_rfl) rfl (by rfl) fun K hK => ?_
      refine wp_val (.int .i64 E) (by go_simp) (some 55) (by rfl) ?_
      refine hK _ _ (fun _ => (unhide HGW6).1) ?_
      clear hK K
      simp only [Act.put, List.setIfInBounds_toArray, List.set_cons_zero, List.set_cons_succ]
      refine wpAnyL_one (i := 20) (by kernel_rfl) rfl (by rfl) fun K hK => ?_
      refine wp_store_row 26 (.tmp 8) (.tmp 54) (by rfl) (N + 1) #[.bool false, .slice none 0 0, .slice ko kq kp, .slice go gq gp] (by rfl) (by rfl) 26 _ (unhide HGW6).2 nodeInfo rfl (node_one _ _ _ _ _ _ _ _ _ _) ?_
      obtain ⟨W8, HE8⟩ : ∃ W8, W8 = W6.setRow (N + 1) #[.bool false, .slice none 0 0, .slice ko kq kp, .slice go gq gp] := ⟨_, rfl⟩
      have HX8 : Hid (W8.heap[N + 1]? = some (.cells #[.bool false, .slice none 0 0, .slice ko kq kp, .slice go gq gp] 26 (0, 0))) := by rw [HE8]; exact heapRow_same (unhide HGW6).2 _
      have HZ : Hid (Below N u W8 ∧ RwK W8 G (flatK m.keys) ∧ RwG W8 G2 (flatG m.kids)) := by
        rw [HE8]
        exact ⟨belowRow (unhide HGW6).1.1 (Nat.le_succ N) _, (unhide HLA).setRow (N + 1) _ (fun b o e => by cases e; have := unhide HF4; omega), (unhide HLB).setRow (N + 1) _ (fun b o e => by cases e; have := unhide HF5; omega)⟩
      rw [← HE8]
      refine hK _ _ (fun _ => ⟨(unhide HZ).1, by rw [HE8]; exact (heapRow_other _ _ _ _ (by omega)).trans (unhide HGW6).1.2⟩) ?_
      clear hK K HE8
      simp only [Act.put, List.setIfInBounds_toArray]
      refine wpAnyL_one (i := 21) (by kernel_rfl) rfl (by rfl) fun K hK => ?_
      refine wp_val (.int .i64 E) (by go_simp) (some 9) (by rfl) ?_
      refine hK _ _ (fun h => absurd rfl h) ?_
      clear hK K
      simp only [Act.put]
      refine wpAnyL_done (by kernel_rfl) ?_ _
      go_wp2
      refine bodyPost_ret (results_cell_tmp rfl _ _ (N + 1) 26 #[.bool false, .slice none 0 0, .slice ko kq kp, .slice go gq gp] (0, 0) _ rfl (unhide HX8) nodeUnd rfl nodeInfo) rfl ?_
      exact ⟨_, E, rfl, unhide HFIN W8 N G c4 G2 c5 _ _ _ _ _ _ E (unhide HE) (unhide HZ).2.1 (unhide HL4).2 (unhide HZ).2.2 (unhide HL5).2 (unhide HF4) (unhide HF5), (unhide HZ).1⟩
    · refine wp_buildTo (by rfl) _ _ (by simp only [List.map_toArray, List.map_cons, List.map_nil]; exact bsG X1 _) (some 50) (by rfl) ?_
      obtain ⟨X2, hw2⟩ : ∃ X, X = X1.alloc (.cells #[.int .u32 (kid : Int)] 50) := ⟨_, rfl⟩
      obtain ⟨B2, hb2⟩ : ∃ X, X = X1.heap.size := ⟨_, rfl⟩
      have hbe : Below X1.heap.size X1 X2 := by rw [hw2]; exact (Below.refl _ _).alloc (Nat.le_refl _) _
      have HGX2 := hide ((unhide HGX1).below hbe)
      have HV : Hid (Lies X2 (some ⟨B2, 0, none⟩) [.int .u32 (kid : Int)]) := by rw [hw2, hb2]; exact Lies.row (heap_alloc_new _ _)
      have HQ := hide ((unhide HQ).below hbe)
      rw [← hw2, ← hb2]
      refine hK _ _ (fun _ => (unhide HGX2).1) ?_
      clear hK K hw2 hb2 hbe
      simp only [Act.put, List.setIfInBounds_toArray, List.set_cons_zero, List.set_cons_succ]
      refine wpAnyL_one (i := 6) (by kernel_rfl) rfl (by rfl) fun K hK => ?_
      refine wp_call_fn 91 _ _ (by rfl) #[.slice ka kn kc, .int .i64 (i : Int), .int .i64 (i : Int), .slice (some ⟨B1, 0, none⟩) 1 1] (by with_unfolding_all rfl) entK (some 42) (by rfl) _ (unhide H3 _ _ (unhide HGX2).1.1 (unhide HQ)) ?_
      rintro _ X3 ⟨G, c4, rfl, hG, hl4, hbe⟩
      have HGX3 := hide ((unhide HGX2).below hbe)
      have HF4 : Hid (N + 2 ≤ G) := hide (Nat.le_trans (unhide HGX2).sz hG)
      have HL4 := hide hl4
      have HV := hide ((unhide HV).below hbe)
      refine hK _ _ (fun _ => (unhide HGX3).1) ?_
      clear hK K hG hl4 hbe
      simp only [Act.put, List.setIfInBounds_toArray, List.set_cons_zero, List.set_cons_succ]
      refine wpAnyL_one (i := 15) (by kernel_rfl) rfl (by rfl) fun K hK => ?_
      refine wp_call_fn 92 _ _ (by rfl) #[.slice ga gn gc, .int .i64 ((i + 1 : Nat) : Int), .int .i64 ((i + 1 : Nat) : Int), .slice (some ⟨B2, 0, none⟩) 1 1] (by with_unfolding_all rfl) entG (some 51) (by rfl) _ (unhide H4 _ _ (unhide HGX3).1.1 (unhide HV)) ?_
      rintro _ W5 ⟨G2, c5, rfl, hG, hl5, hbe⟩
      have HGW5 := hide ((unhide HGX3).below hbe)
      have HF5 : Hid (N + 2 ≤ G2) := hide (Nat.le_trans (unhide HGX3).sz hG)
      have HL5 := hide hl5
      have HL4b := hide ((unhide HL4).1.below hbe)
      refine hK _ _ (fun _ => (unhide HGW5).1) ?_
      clear hK K hG hl5 hbe
      simp only [Act.put, List.setIfInBounds_toArray, List.set_cons_zero, List.set_cons_succ]
      refine wpAnyL_one (i := 16) (by kernel_rfl) rfl (by rfl) fun K hK => ?_
      refine wp_val (.agg #[.bool false, .slice none 0 0, .slice (some ⟨G, 0, none⟩) k2 c4, .slice (some ⟨G2, 0, none⟩) g2 c5]) (by go_simp) (some 52) (by rfl) ?_
      refine hK _ _ (fun _ => (unhide HGW5).1) ?_
      clear hK K
      simp only [Act.put, List.setIfInBounds_toArray, List.set_cons_zero, List.set_cons_succ]
      refine wpAnyL_one (i := 17) (by kernel_rfl) rfl (by rfl) fun K hK => ?_
      refine wp_call_fn 87 _ _ (by rfl) #[.agg #[.bool false, .slice none 0 0, .slice (some ⟨G, 0, none⟩) k2 c4, .slice (some ⟨G2, 0, none⟩) g2 c5]] (by with_unfolding_all rfl) entC (some 53) (by rfl) _ (unhide H5 W5 G c4 G2 c5 (unhide HL4b) (unhide HL4).2 (unhide HL5).1 (unhide HL5).2) ?_
      rintro _ W6 ⟨ko, kq, kp, go, gq, gp, E, rfl, hE, hbe⟩
      have HGW6 := hide ((unhide HGW5).below hbe)
      have HE := hide hE
      have HLA := hide ((unhide HL4b).below hbe)
      have HLB := hide ((unhide HL5).1.below hbe)
      refine hK _ _ (fun _ => (unhide HGW6).1) ?_
      clear hK K hE hbe
      simp only [Act.put, List.setIfInBounds_toArray, List.set_cons_zero, List.set_cons_succ]
      refine wpAnyL_take 18 54 (.agg #[.bool false, .slice none 0 0, .slice ko kq kp, .slice go gq gp]) [] rfl rfl (by kernel_rfl) (by kernel_rfl) (by kernel_rfl) (by kernel_rfl) (by kernel_rfl) (fun _ _ _ h => h) (by rfl) (fun u _ => by go_simp) (unhide HGW6).1 ?_
      simp only [Act.put, List.setIfInBounds_toArray, List.set_cons_zero, List.set_cons_succ]
      refine wpAnyL_one (i := 19) (by kernel_rfl) rfl (by rfl) fun K hK => ?_
      refine wp_val (.int .i64 E) (by go_simp) (some 55) (by rfl) ?_
      refine hK _ _ (fun _ => (unhide HGW6).1) ?_
      clear hK K
      simp only [Act.put, List.setIfInBounds_toArray, List.set_cons_zero, List.set_cons_succ]
      refine wpAnyL_one (i := 20) (by kernel_rfl) rfl (by rfl) fun K hK => ?_
      refine wp_store_row 26 (.tmp 8) (.tmp 54) (by rfl) (N + 1) #[.bool false, .slice none 0 0, .slice ko kq kp, .slice go gq gp] (by rfl) (by rfl) 26 _ (unhide HGW6).2 nodeInfo rfl (node_one _ _ _ _ _ _ _ _ _ _) ?_
      obtain ⟨W8, HE8⟩ : ∃ W8, W8 = W6.setRow (N + 1) #[.bool false, .slice none 0 0, .slice ko kq kp, .slice go gq gp] := ⟨_, rfl⟩
      have HX8 : Hid (W8.heap[N + 1]? = some (.cells #[.bool false, .slice none 0 0, .slice ko kq kp, .slice go gq gp] 26 (0, 0))) := by rw [HE8]; exact heapRow_same (unhide HGW6).2 _
      have HZ : Hid (Below N u W8 ∧ RwK W8 G (flatK m.keys) ∧ RwG W8 G2 (flatG m.kids)) := by
        rw [HE8]
        exact ⟨belowRow (unhide HGW6).1.1 (Nat.le_succ N) _, (unhide HLA).setRow (N + 1) _ (fun b o e => by cases e; have := unhide HF4; omega), (unhide HLB).setRow (N + 1) _ (fun b o e => by cases e; have := unhide HF5; omega)⟩
      rw [← HE8]
      refine hK _ _ (fun _ => ⟨(unhide HZ).1, by rw [HE8]; exact (heapRow_other _ _ _ _ (by omega)).trans (unhide HGW6).1.2⟩) ?_
      clear hK K HE8
      simp only [Act.put, List.setIfInBounds_toArray]
      refine wpAnyL_one (i := 21) (by kernel_rfl) rfl (by rfl) fun K hK => ?_
      refine wp_val (.int .i64 E) (by go_simp) (some 9) (by rfl) ?_
      refine hK _ _ (fun h => absurd rfl h) ?_
      clear hK K
      simp only [Act.put]
      refine wpAnyL_done (by kernel_rfl) ?_ _
      go_wp2
      refine bodyPost_ret (results_cell_tmp rfl _ _ (N + 1) 26 #[.bool false, .slice none 0 0, .slice ko kq kp, .slice go gq gp] (0, 0) _ rfl (unhide HX8) nodeUnd rfl nodeInfo) rfl ?_
      exact ⟨_, E, rfl, unhide HFIN W8 N G c4 G2 c5 _ _ _ _ _ _ E (unhide HE) (unhide HZ).2.1 (unhide HL4).2 (unhide HZ).2.2 (unhide HL5).2 (unhide HF4) (unhide HF5), (unhide HZ).1⟩
  · refine wp_buildTo (by rfl) _ _ (by simp only [List.map_toArray, List.map_cons, List.map_nil]; exact bsG X0 _) (some 50) (by rfl) ?_
    obtain ⟨X1, hw2⟩ : ∃ X, X = X0.alloc (.cells #[.int .u32 (kid : Int)] 50) := ⟨_, rfl⟩
    obtain ⟨B2, hb2⟩ : ∃ X, X = X0.heap.size := ⟨_, rfl⟩
    have hbe : Below X0.heap.size X0 X1 := by rw [hw2]; exact (Below.refl _ _).alloc (Nat.le_refl _) _
    have HGX1 := hide ((unhide HGX0).below hbe)
    have HV : Hid (Lies X1 (some ⟨B2, 0, none⟩) [.int .u32 (kid : Int)]) := by rw [hw2, hb2]; exact Lies.row (heap_alloc_new _ _)
    rw [← hw2, ← hb2]
    refine hK _ _ (fun _ => (unhide HGX1).1) ?_
    clear hK K hw2 hb2 hbe
    simp only [Act.put, List.setIfInBounds_toArray, List.set_cons_zero, List.set_cons_succ]
    refine wpAnyL_one (i := 5) (by kernel_rfl) rfl (by rfl) fun K hK => ?_
    refine wp_buildTo (by rfl) _ _ (by simp only [List.map_toArray, List.map_cons, List.map_nil]; exact bsK X1 _) (some 41) (by rfl) ?_
    obtain ⟨X2, hw2⟩ : ∃ X, X = X1.alloc (.cells #[.string key] 9) := ⟨_, rfl⟩
    obtain ⟨B1, hb2⟩ : ∃ X, X = X1.heap.size := ⟨_, rfl⟩
    have hbe : Below X1.heap.size X1 X2 := by rw [hw2]; exact (Below.refl _ _).alloc (Nat.le_refl _) _
    have HGX2 := hide ((unhide HGX1).below hbe)
    have HQ : Hid (Lies X2 (some ⟨B1, 0, none⟩) [.string key]) := by rw [hw2, hb2]; exact Lies.row (heap_alloc_new _ _)
    have HV := hide ((unhide HV).below hbe)
    rw [← hw2, ← hb2]
    refine hK _ _ (fun _ => (unhide HGX2).1) ?_
    clear hK K hw2 hb2 hbe
    simp only [Act.put, List.setIfInBounds_toArray, List.set_cons_zero, List.set_cons_succ]
    refine wpAnyL_one (i := 6) (by kernel_rfl) rfl (by rfl) fun K hK => ?_
    refine wp_call_fn 91 _ _ (by rfl) #[.slice ka kn kc, .int .i64 (i : Int), .int .i64 (i : Int), .slice (some ⟨B1, 0, none⟩) 1 1] (by with_unfolding_all rfl) entK (some 42) (by rfl) _ (unhide H3 _ _ (unhide HGX2).1.1 (unhide HQ)) ?_
    rintro _ X3 ⟨G, c4, rfl, hG, hl4, hbe⟩
    have HGX3 := hide ((unhide HGX2).below hbe)
    have HF4 : Hid (N + 2 ≤ G) := hide (Nat.le_trans (unhide HGX2).sz hG)
    have HL4 := hide hl4
    have HV := hide ((unhide HV).below hbe)
    refine hK _ _ (fun _ => (unhide HGX3).1) ?_
    clear hK K hG hl4 hbe
    simp only [Act.put, List.setIfInBounds_toArray, List.set_cons_zero, List.set_cons_succ]
    refine wpAnyL_one (i := 15) (by kernel_rfl) rfl (by rfl) fun K hK => ?_
    refine wp_call_fn 92 _ _ (by rfl) #[.slice ga gn gc, .int .i64 ((i + 1 : Nat) : Int), .int .i64 ((i + 1 : Nat) : Int), .slice (some ⟨B2, 0, none⟩) 1 1] (by with_unfolding_all rfl) entG (some 51) (by rfl) _ (unhide H4 _ _ (unhide HGX3).1.1 (unhide HV)) ?_
    rintro _ W5 ⟨G2, c5, rfl, hG, hl5, hbe⟩
    have HGW5 := hide ((unhide HGX3).below hbe)
    have HF5 : Hid (N + 2 ≤ G2) := hide (Nat.le_trans (unhide HGX3).sz hG)
    have HL5 := hide hl5
    have HL4b := hide ((unhide HL4).1.below hbe)
    refine hK _ _ (fun _ => (unhide HGW5).1) ?_
    clear hK K hG hl5 hbe
    simp only [Act.put, List.setIfInBounds_toArray, List.set_cons_zero, List.set_cons_succ]
    refine wpAnyL_one (i := 16) (by kernel_rfl) rfl (by rfl) fun K hK => ?_
    refine wp_val (.agg #[.bool false, .slice none 0 0, .slice (some ⟨G, 0, none⟩) k2 c4, .slice (some ⟨G2, 0, none⟩) g2 c5]) (by go_simp) (some 52) (by rfl) ?_
    refine hK _ _ (fun _ => (unhide HGW5).1) ?_
    clear hK K
    simp only [Act.put, List.setIfInBounds_toArray, List.set_cons_zero, List.set_cons_succ]
    refine wpAnyL_one (i := 17) (by kernel_rfl) rfl (by rfl) fun K hK => ?_
    refine wp_call_fn 87 _ _ (by rfl) #[.agg #[.bool false, .slice none 0 0, .slice (some ⟨G, 0, none⟩) k2 c4, .slice (some ⟨G2, 0, none⟩) g2 c5]] (by with_unfolding_all rfl) entC (some 53) (by rfl) _ (unhide H5 W5 G c4 G2 c5 (unhide HL4b) (unhide HL4).2 (unhide HL5).1 (unhide HL5).2) ?_
    rintro _ W6 ⟨ko, kq, kp, go, gq, gp, E, rfl, hE, hbe⟩
    have HGW6 := hide ((unhide HGW5).below hbe)
    have HE := hide hE
    have HLA := hide ((unhide HL4b).below hbe)
    have HLB := hide ((unhide HL5).1.below hbe)
    refine hK _ _ (fun _ => (unhide HGW6).1) ?_
    clear hK K hE hbe
    simp only [Act.put, List.setIfInBounds_toArray, List.set_cons_zero, List.set_cons_succ]
    refine wpAnyL_take 18 54 (.agg #[.bool false, .slice none 0 0, .slice ko kq kp, .slice go gq gp]) [] rfl rfl (by kernel_rfl) (by kernel_rfl) (by kernel_rfl) (by kernel_rfl) (by kernel_rfl) (fun _ _ _ h => h) (by rfl) (fun u _ => by go_simp) (unhide HGW6).1 ?_
    simp only [Act.put, List.setIfInBounds_toArray, List.set_cons_zero, List.set_cons_succ]
    refine wpAnyL_one (i := 19) (by kernel_rfl) rfl (by rfl) fun K hK => ?_
    refine wp_val (.int .i64 E) (by go_simp) (some 55) (by rfl) ?_
    refine hK _ _ (fun _ => (unhide HGW6).1) ?_
    clear hK K
    simp only [Act.put, List.setIfInBounds_toArray, List.set_cons_zero, List.set_cons_succ]
    refine wpAnyL_one (i := 20) (by kernel_rfl) rfl (by rfl) fun K hK => ?_
    refine wp_store_row 26 (.tmp 8) (.tmp 54) (by rfl) (N + 1) #[.bool false, .slice none 0 0, .slice ko kq kp, .slice go gq gp] (by rfl) (by rfl) 26 _ (unhide HGW6).2 nodeInfo rfl (node_one _ _ _ _ _ _ _ _ _ _) ?_
    obtain ⟨W8, HE8⟩ : ∃ W8, W8 = W6.setRow (N + 1) #[.bool false, .slice none 0 0, .slice ko kq kp, .slice go gq gp] := ⟨_, rfl⟩
    have HX8 : Hid (W8.heap[N + 1]? = some (.cells #[.bool false, .slice none 0 0, .slice ko kq kp, .slice go gq gp] 26 (0, 0))) := by rw [HE8]; exact heapRow_same (unhide HGW6).2 _
    have HZ : Hid (Below N u W8 ∧ RwK W8 G (flatK m.keys) ∧ RwG W8 G2 (flatG m.kids)) := by
      rw [HE8]
      exact ⟨belowRow (unhide HGW6).1.1 (Nat.le_succ N) _, (unhide HLA).setRow (N + 1) _ (fun b o e => by cases e; have := unhide HF4; omega), (unhide HLB).setRow (N + 1) _ (fun b o e => by cases e; have := unhide HF5; omega)⟩
    rw [← HE8]
    refine hK _ _ (fun _ => ⟨(unhide HZ).1, by rw [HE8]; exact (heapRow_other _ _ _ _ (by omega)).trans (unhide HGW6).1.2⟩) ?_
    clear hK K HE8
    simp only [Act.put, List.setIfInBounds_toArray]
    refine wpAnyL_one (i := 21) (by kernel_rfl) rfl (by rfl) fun K hK => ?_
    refine wp_val (.int .i64 E) (by go_simp) (some 9) (by rfl) ?_
    refine hK _ _ (fun h => absurd rfl h) ?_
    clear hK K
    simp only [Act.put]
    refine wpAnyL_done (by kernel_rfl) ?_ _
    go_wp2
    refine bodyPost_ret (results_cell_tmp rfl _ _ (N + 1) 26 #[.bool false, .slice none 0 0, .slice ko kq kp, .slice go gq gp] (0, 0) _ rfl (unhide HX8) nodeUnd rfl nodeInfo) rfl ?_
    exact ⟨_, E, rfl, unhide HFIN W8 N G c4 G2 c5 _ _ _ _ _ _ E (unhide HE) (unhide HZ).2.1 (unhide HL4).2 (unhide HZ).2.2 (unhide HL5).2 (unhide HF4) (unhide HF5), (unhide HZ).1⟩
end
section
open Go.RowKit
/-- what loops over a list make of it: one left out; one put in ahead of a place; one put in behind a place -/
def lout {α : Type} (l : List α) (i : Nat) : Nat → List α
  | 0 => []
  | k + 1 => lout l i k ++ (if k = i then [] else l[k]?.toList)
def linb {α : Type} (l : List α) (i : Nat) (q : α) : Nat → List α
  | 0 => []
  | k + 1 => linb l i q k ++ (if k = i then [q] else []) ++ l[k]?.toList
def lina {α : Type} (l : List α) (i : Nat) (q : α) : Nat → List α
  | 0 => []
  | k + 1 => lina l i q k ++ l[k]?.toList ++ (if k = i then [q] else [])
theorem lout_le {α : Type} (l : List α) (i k : Nat) (h : k ≤ i) : lout l i k = l.take k := by
  induction k with
  | zero => rfl
  | succ k ih => rw [lout, ih (by omega), if_neg (by omega), List.take_add_one]
theorem lout_all {α : Type} (l : List α) (i j : Nat) : lout l i (i + 1 + j) = l.take i ++ (l.drop (i + 1)).take j := by
  induction j with
  | zero => rw [Nat.add_zero, lout, if_pos rfl, lout_le l i i (Nat.le_refl _)]; simp
  | succ j ih => rw [← Nat.add_assoc, lout, ih, if_neg (by omega), List.append_assoc, List.take_add_one, List.getElem?_drop]
theorem linb_le {α : Type} (l : List α) (i : Nat) (q : α) (k : Nat) (h : k ≤ i) : linb l i q k = l.take k := by
  induction k with
  | zero => rfl
  | succ k ih => rw [linb, ih (by omega), if_neg (by omega), List.append_nil, List.take_add_one]
theorem linb_all {α : Type} (l : List α) (i : Nat) (q : α) (j : Nat) : linb l i q (i + 1 + j) = l.take i ++ q :: (l.drop i).take (j + 1) := by
  induction j with
  | zero => rw [Nat.add_zero, linb, if_pos rfl, linb_le l i q i (Nat.le_refl _), List.take_add_one (l := l.drop i), List.getElem?_drop]; simp
  | succ j ih => rw [← Nat.add_assoc, linb, ih, if_neg (by omega), List.append_nil, List.append_assoc, List.take_add_one (i := j + 1), List.getElem?_drop, show i + (j + 1) = i + 1 + j by omega]; rfl
theorem lina_le {α : Type} (l : List α) (i : Nat) (q : α) (k : Nat) (h : k ≤ i) : lina l i q k = l.take k := by
  induction k with
  | zero => rfl
  | succ k ih => rw [lina, ih (by omega), if_neg (by omega), List.append_nil, List.take_add_one]
theorem lina_all {α : Type} (l : List α) (i : Nat) (q : α) (j : Nat) : lina l i q (i + 1 + j) = l.take (i + 1) ++ q :: (l.drop (i + 1)).take j := by
  induction j with
  | zero => rw [Nat.add_zero, lina, if_pos rfl, lina_le l i q i (Nat.le_refl _), List.take_add_one (l := l)]; simp
  | succ j ih => rw [← Nat.add_assoc, lina, ih, if_neg (by omega), List.append_nil, List.append_assoc, List.take_add_one (i := j), List.getElem?_drop]; rfl
/-- while it is made: the box of what came in, the result, and the branch so far -/
structure Gn (u w : World) (N M : Nat) (bx : Obj) (ks : List ByteArray) (gs : List Nat) (ka : Option Addr) (kn kc : Nat) (ga : Option Addr) (gn gc : Nat) : Prop where
  bel : Below N u w
  box : w.heap[N]? = some bx
  res : w.heap[N + 1]? = some (.cells #[.bool false, .slice none 0 0, .slice none 0 0, .slice none 0 0] 26 (0, 0))
  made : w.heap[M]? = some (.cells #[.bool false, .slice none 0 0, .slice ka kn kc, .slice ga gn gc] 26 (0, 0))
  ek : kn = ks.length
  eg : gn = gs.length
  k : w.ownsRow (N + 2) 9 1 (.slice ka kn kc) kn (flatK ks)
  g : w.ownsRow (N + 2) 50 1 (.slice ga gn gc) gn (flatG gs)
  hM : N + 2 ≤ M
section
variable {u w : World} {N M : Nat} {bx : Obj} {ks : List ByteArray} {gs : List Nat} {ka : Option Addr} {kn kc : Nat} {ga : Option Addr} {gn gc : Nat}
theorem Gn.sz (h : Gn u w N M bx ks gs ka kn kc ga gn gc) : N + 2 ≤ w.heap.size := by
  have h1 := (Array.getElem?_eq_some_iff.1 h.made).1
  have h2 := h.hM
  omega
theorem Gn.below {w' : World} (h : Gn u w N M bx ks gs ka kn kc ga gn gc) (hb : Below w.heap.size w w') : Gn u w' N M bx ks gs ka kn kc ga gn gc :=
  ⟨h.bel.trans (hb.mono (by have := h.sz; omega)), box_below h.box hb, box_below h.res hb, box_below h.made hb, h.ek, h.eg, own_keep h.k fun x hx => hb.block x (h.k.lt x hx).2, own_keep h.g fun x hx => hb.block x (h.g.lt x hx).2, h.hM⟩
theorem Gn.drewN (h : Gn u w N M bx ks gs ka kn kc ga gn gc) (z : Nat) : Gn u (w.drewN z) N M bx ks gs ka kn kc ga gn gc := h.below (belowDrewN (Below.refl _ _) z)
theorem Gn.mid {w2 : World} {o : Obj} {r : Option Nat} (h : Gn u w N M bx ks gs ka kn kc ga gn gc) (hg : (w.alloc o).grownBy w2 r) (hr : ∀ g, r = some g → g ≠ M) :
    w2.heap[M]? = some (.cells #[.bool false, .slice none 0 0, .slice ka kn kc, .slice ga gn gc] 26 (0, 0)) := by
  have hMl := (Array.getElem?_eq_some_iff.1 h.made).1
  rw [hg.block M (by simp; omega) (fun e => hr M e.symm rfl), heap_alloc_old w o hMl]
  exact h.made
theorem Gn.low {w2 : World} {o : Obj} {r : Option Nat} (h : Gn u w N M bx ks gs ka kn kc ga gn gc) (hg : (w.alloc o).grownBy w2 r) (hr : ∀ x, r = some x → N + 2 ≤ x) : Below N u w2 ∧ w2.heap[N]? = some bx := by
  have hsz := h.sz
  have hbel : Below (N + 2) w w2 := ((Below.refl (N + 2) w).alloc (by omega) o).grown hg (by simp; omega) hr
  exact ⟨h.bel.trans (hbel.mono (by omega)), (hbel.block N (by omega)).trans h.box⟩
theorem Gn.putK {w2 : World} {o : Obj} {ao : Option Addr} {cp : Nat} {q : ByteArray} (h : Gn u w N M bx ks gs ka kn kc ga gn gc) (hg : (w.alloc o).grownBy w2 (Value.slice ka kn kc).ownBlock)
    (ho : w2.ownsRow (N + 2) 9 1 (.slice ao (kn + 1) cp) (kn + 1) (flatK (ks ++ [q]))) :
    Gn u (w2.setCell ⟨M, 2, none⟩ (.slice ao (kn + 1) cp)) N M bx (ks ++ [q]) gs ao (kn + 1) cp ga gn gc := by
  have hMl := (Array.getElem?_eq_some_iff.1 h.made).1
  have hNl := (Array.getElem?_eq_some_iff.1 h.res).1
  have hMN := h.hM
  have hlt := h.k.lt
  have hblk : ∀ x, x < w.heap.size → some x ≠ (Value.slice ka kn kc).ownBlock → w2.heap[x]? = w.heap[x]? := fun x hx hne => by
    rw [hg.block x (by simp; omega) hne]
    exact heap_alloc_old w o hx
  have hmd : w2.heap[M]? = w.heap[M]? := hblk M hMl (fun e => not_node h.k (by decide) h.made M e.symm rfl)
  have hbel : Below (N + 2) w w2 := ((Below.refl (N + 2) w).alloc (by omega) o).grown hg (by simp; omega) (fun k hk => (hlt k hk).1)
  have hm2 := hmd.trans h.made
  refine ⟨belowCell (p := ⟨M, 2, none⟩) (h.bel.trans (hbel.mono (by omega))) (show N ≤ M by omega) _, ?_, ?_, ?_, by rw [List.length_append, ← h.ek]; rfl, h.eg, ?_, ?_, h.hM⟩
  · rw [Below.heap_setCell w2 ⟨M, 2, none⟩ _ N (by show N ≠ M; omega), hbel.block N (by omega)]; exact h.box
  · rw [Below.heap_setCell w2 ⟨M, 2, none⟩ _ (N + 1) (by show N + 1 ≠ M; omega), hbel.block (N + 1) (by omega)]; exact h.res
  · exact heapCell_same hm2 2 _
  · exact own_setM ho (by decide) hm2 _ _
  · exact own_setM ((h.g.alloc o).kept hg (own_ne h.g h.k (by decide))) (by decide) hm2 _ _
/-- append of one: what is made of the world when the field is stored behind it -/
theorem Gn.opK {o : Oper} {a : Act} {K : Act → World → Prop} {Q : Exit → Act → World → Prop} (s x : Operand) (ho : o.op = .call { callee := .builtin .append, args := #[s, x], argTypes := #[23, 23] }) (d : Option Tmp) (hd : o.dst = d) (q : ByteArray)
    (h : Gn u w N M bx ks gs ka kn kc ga gn gc) (hs : a.eval s = .slice ka kn kc) (hx : a.eval x = .slice (some ⟨w.heap.size, 0, none⟩) 1 1) (hl : kn ≤ 2000000)
    (hK : ∀ ao k2 cp w2, Hid (k2 = kn + 1) → Hid ((Below N u w2 ∧ w2.heap[N]? = some bx) ∧ w2.heap[M]? = some (.cells #[.bool false, .slice none 0 0, .slice ka kn kc, .slice ga gn gc] 26 (0, 0))) → Hid (Gn u (w2.setCell ⟨M, 2, none⟩ (.slice ao k2 cp)) N M bx (ks ++ [q]) gs ao k2 cp ga gn gc) → K (a.put d (.slice ao k2 cp)) w2) : o.wp Try.prog a (w.alloc (.cells #[.string q] 9)) K Q := by
  subst hd
  obtain ⟨i1, hi1⟩ := str_parts
  have hsz := h.sz
  obtain ⟨v', w2, hr, hown', hgrow, _⟩ := W.run_append_own' (P := Try.prog) (w.alloc (.cells #[.string q] 9)) (N + 2) 23 o.type 9 i1 (.string ⟨#[]⟩) 1 16 undSt hi1.1 hi1.2.1 hi1.2.2.1 hi1.2.2.2 rfl (by decide) (.slice ka kn kc) kn (flatK ks) (h.k.alloc _) ⟨w.heap.size, 0, none⟩ 1 1 [.string q] rfl (one_new w _ _) (by simp [Value.oneCell']) (by simp only [maxLen]; omega) (by omega) (by simp; omega)
  obtain ⟨ao, cp, rfl⟩ := W.owns_shape hown'
  unfold Oper.wp execOp
  simp only [ho, resolve, invoke, builtin, Sem.run_bind, Sem.run_pure, Result.andThen_ok, List.map_toArray, List.map_cons, List.map_nil, hs, hx, hr]
  exact hK ao (kn + 1) cp w2 rfl ⟨h.low hgrow (fun x hx => (h.k.lt x hx).1), h.mid hgrow (not_node h.k (by decide) h.made)⟩ (h.putK (q := q) hgrow (by rw [flatK_app]; exact hown'))
/-- append of one, in a plain region: what is made of the world when the field is stored behind it -/
theorem Gn.wpK {ops : Array Oper} {rest : List Oper} {o : Oper} {a : Act} {Q : Exit → Act → World → Prop} (hgd : o.guard = none) (s x : Operand) (ho : o.op = .call { callee := .builtin .append, args := #[s, x], argTypes := #[23, 23] }) (d : Option Tmp) (hd : o.dst = d) (q : ByteArray)
    (h : Gn u w N M bx ks gs ka kn kc ga gn gc) (hs : a.eval s = .slice ka kn kc) (hx : a.eval x = .slice (some ⟨w.heap.size, 0, none⟩) 1 1) (hl : kn ≤ 2000000)
    (hK : ∀ ao k2 cp w2, Hid (k2 = kn + 1) → Hid ((Below N u w2 ∧ w2.heap[N]? = some bx) ∧ w2.heap[M]? = some (.cells #[.bool false, .slice none 0 0, .slice ka kn kc, .slice ga gn gc] 26 (0, 0))) → Hid (Gn u (w2.setCell ⟨M, 2, none⟩ (.slice ao k2 cp)) N M bx (ks ++ [q]) gs ao k2 cp ga gn gc) → wpList Try.prog ops Q rest (a.put d (.slice ao k2 cp)) w2) : wpList Try.prog ops Q (o :: rest) a (w.alloc (.cells #[.string q] 9)) := by
  exact wpList_plain hgd fun K hKK => h.opK s x ho d hd q hs hx hl fun ao k2 cp w2 h1 h2 h3 => hKK _ _ (hK ao k2 cp w2 h1 h2 h3)
theorem Gn.putG {w2 : World} {o : Obj} {ao : Option Addr} {cp : Nat} {q : Nat} (h : Gn u w N M bx ks gs ka kn kc ga gn gc) (hg : (w.alloc o).grownBy w2 (Value.slice ga gn gc).ownBlock)
    (ho : w2.ownsRow (N + 2) 50 1 (.slice ao (gn + 1) cp) (gn + 1) (flatG (gs ++ [q]))) :
    Gn u (w2.setCell ⟨M, 3, none⟩ (.slice ao (gn + 1) cp)) N M bx ks (gs ++ [q]) ka kn kc ao (gn + 1) cp := by
  have hMl := (Array.getElem?_eq_some_iff.1 h.made).1
  have hNl := (Array.getElem?_eq_some_iff.1 h.res).1
  have hMN := h.hM
  have hlt := h.g.lt
  have hblk : ∀ x, x < w.heap.size → some x ≠ (Value.slice ga gn gc).ownBlock → w2.heap[x]? = w.heap[x]? := fun x hx hne => by
    rw [hg.block x (by simp; omega) hne]
    exact heap_alloc_old w o hx
  have hmd : w2.heap[M]? = w.heap[M]? := hblk M hMl (fun e => not_node h.g (by decide) h.made M e.symm rfl)
  have hbel : Below (N + 2) w w2 := ((Below.refl (N + 2) w).alloc (by omega) o).grown hg (by simp; omega) (fun k hk => (hlt k hk).1)
  have hm2 := hmd.trans h.made
  refine ⟨belowCell (p := ⟨M, 3, none⟩) (h.bel.trans (hbel.mono (by omega))) (show N ≤ M by omega) _, ?_, ?_, ?_, h.ek, by rw [List.length_append, ← h.eg]; rfl, ?_, ?_, h.hM⟩
  · rw [Below.heap_setCell w2 ⟨M, 3, none⟩ _ N (by show N ≠ M; omega), hbel.block N (by omega)]; exact h.box
  · rw [Below.heap_setCell w2 ⟨M, 3, none⟩ _ (N + 1) (by show N + 1 ≠ M; omega), hbel.block (N + 1) (by omega)]; exact h.res
  · exact heapCell_same hm2 3 _
  · exact own_setM ((h.k.alloc o).kept hg (own_ne h.k h.g (by decide))) (by decide) hm2 _ _
  · exact own_setM ho (by decide) hm2 _ _
/-- append of one: what is made of the world when the field is stored behind it -/
theorem Gn.opG {o : Oper} {a : Act} {K : Act → World → Prop} {Q : Exit → Act → World → Prop} (s x : Operand) (ho : o.op = .call { callee := .builtin .append, args := #[s, x], argTypes := #[24, 24] }) (d : Option Tmp) (hd : o.dst = d) (q : Nat)
    (h : Gn u w N M bx ks gs ka kn kc ga gn gc) (hs : a.eval s = .slice ga gn gc) (hx : a.eval x = .slice (some ⟨w.heap.size, 0, none⟩) 1 1) (hl : gn ≤ 2000000)
    (hK : ∀ ao k2 cp w2, Hid (k2 = gn + 1) → Hid ((Below N u w2 ∧ w2.heap[N]? = some bx) ∧ w2.heap[M]? = some (.cells #[.bool false, .slice none 0 0, .slice ka kn kc, .slice ga gn gc] 26 (0, 0))) → Hid (Gn u (w2.setCell ⟨M, 3, none⟩ (.slice ao k2 cp)) N M bx ks (gs ++ [q]) ka kn kc ao k2 cp) → K (a.put d (.slice ao k2 cp)) w2) : o.wp Try.prog a (w.alloc (.cells #[.int .u32 (q : Int)] 50)) K Q := by
  subst hd
  obtain ⟨i1, hi1⟩ := kid_parts
  have hsz := h.sz
  obtain ⟨v', w2, hr, hown', hgrow, _⟩ := W.run_append_own' (P := Try.prog) (w.alloc (.cells #[.int .u32 (q : Int)] 50)) (N + 2) 24 o.type 50 i1 (.int .u32 0) 1 4 undG hi1.1 hi1.2.1 hi1.2.2.1 hi1.2.2.2 rfl (by decide) (.slice ga gn gc) gn (flatG gs) (h.g.alloc _) ⟨w.heap.size, 0, none⟩ 1 1 [.int .u32 (q : Int)] rfl (one_new w _ _) (by simp [Value.oneCell']) (by simp only [maxLen]; omega) (by omega) (by simp; omega)
  obtain ⟨ao, cp, rfl⟩ := W.owns_shape hown'
  unfold Oper.wp execOp
  simp only [ho, resolve, invoke, builtin, Sem.run_bind, Sem.run_pure, Result.andThen_ok, List.map_toArray, List.map_cons, List.map_nil, hs, hx, hr]
  exact hK ao (gn + 1) cp w2 rfl ⟨h.low hgrow (fun x hx => (h.g.lt x hx).1), h.mid hgrow (not_node h.g (by decide) h.made)⟩ (h.putG (q := q) hgrow (by rw [flatG_app]; exact hown'))
/-- append of one, in a plain region: what is made of the world when the field is stored behind it -/
theorem Gn.wpG {ops : Array Oper} {rest : List Oper} {o : Oper} {a : Act} {Q : Exit → Act → World → Prop} (hgd : o.guard = none) (s x : Operand) (ho : o.op = .call { callee := .builtin .append, args := #[s, x], argTypes := #[24, 24] }) (d : Option Tmp) (hd : o.dst = d) (q : Nat)
    (h : Gn u w N M bx ks gs ka kn kc ga gn gc) (hs : a.eval s = .slice ga gn gc) (hx : a.eval x = .slice (some ⟨w.heap.size, 0, none⟩) 1 1) (hl : gn ≤ 2000000)
    (hK : ∀ ao k2 cp w2, Hid (k2 = gn + 1) → Hid ((Below N u w2 ∧ w2.heap[N]? = some bx) ∧ w2.heap[M]? = some (.cells #[.bool false, .slice none 0 0, .slice ka kn kc, .slice ga gn gc] 26 (0, 0))) → Hid (Gn u (w2.setCell ⟨M, 3, none⟩ (.slice ao k2 cp)) N M bx ks (gs ++ [q]) ka kn kc ao k2 cp) → wpList Try.prog ops Q rest (a.put d (.slice ao k2 cp)) w2) : wpList Try.prog ops Q (o :: rest) a (w.alloc (.cells #[.int .u32 (q : Int)] 50)) := by
  exact wpList_plain hgd fun K hKK => h.opG s x ho d hd q hs hx hl fun ao k2 cp w2 h1 h2 h3 => hKK _ _ (hK ao k2 cp w2 h1 h2 h3)
theorem Gn.at (h : Gn u w N M bx ks gs ka kn kc ga gn gc) (hk : ∀ x ∈ gs, x < 4294967296) (hl : kn ≤ 2000000 ∧ gn ≤ 2000000) : NdAt w ⟨false, [], ks, gs⟩ ⟨none, 0, ka, kc, ga, gc⟩ := by
  have e1 := h.ek
  have e2 := h.eg
  have l1 := own_liesS h.k
  have l2 := own_liesS h.g
  exact ⟨Lies.nil _ _, l1.1, l2.1, hk, ⟨Nat.zero_le _, by show ks.length ≤ _; omega, by show gs.length ≤ _; omega⟩, (fun c hc => by cases hc), ⟨Nat.zero_le _, by rw [← e1]; exact l1.2.1, by rw [← e2]; exact l2.2.1⟩⟩
theorem Gn.ow (h : Gn u w N M bx ks gs ka kn kc ga gn gc) : Ow w N [] ks gs ⟨none, 0, ka, kc, ga, gc⟩ := by
  have h1 := own_down h.k (Nat.le_add_right N 2)
  have h2 := own_down h.g (Nat.le_add_right N 2)
  rw [h.ek] at h1
  rw [h.eg] at h2
  exact ⟨World.ownsRow_nil _ _ _ _, h1, h2⟩
end
/-- a value of one cell is stored -/
theorem wp_store_val {P : Program} {o : Oper} {a : Act} {w : World} {K : Act → World → Prop} {Q : Exit → Act → World → Prop} (ty : TypeId) (x y : Operand) (ho : o.op = .store ty x y) (hd : o.dst = none) (b k : Nat) (ao : Option Addr) (n c : Nat) (hx : a.eval x = .pointer (some ⟨b, k, none⟩)) (hy : a.eval y = .slice ao n c)
    (ht : w.there b k 1) (hi : (P.info? ty).map (·.size) = some 1) (h : K a (w.setCell ⟨b, k, none⟩ (.slice ao n c))) : o.wp P a w K Q := by
  have h1 : (storeVar ty ⟨b, k, none⟩ (.slice ao n c)).run P w = .ok () (w.setCells b k [.slice ao n c]) := run_storeVar_mid (P := P) w b k ty #[.slice ao n c] ht hi (by simp [Value.oneCell'])
  unfold Oper.wp execOp
  simp only [ho, hx, hy, Instr.storeAt, Instr.sureAddr, Sem.run_bind, Sem.run_pure, Result.andThen_ok, h1]
  exact (show K (a.put o.dst undef) _ by rw [hd]; exact h)
theorem made_there {w : World} {M k : Nat} {cs : Array Value} {t : TypeId} (h : w.heap[M]? = some (.cells cs t (0, 0))) (hk : k < cs.size) : w.there M k 1 := fun j hj => by
  obtain rfl : j = 0 := by omega
  exact ⟨by simp [World.cell?, h, hk], row_free h _⟩
end
section
open Go.RowKit
open Classical in
set_option maxRecDepth 100000 in
set_option maxHeartbeats 4000000 in
theorem nGrowNo (n : Nd) (a : Nv) (i : Int) (key : ByteArray) (kid : Nat) (u : World) (h : NdAt u n a) (hc : n.refused false ≠ 0) : Calls Try.prog 44 #[a.v n, .int .i64 i, .string key, .int .u32 (kid : Int)] u fun e u' => e = .returned (.tuple #[zeroV, .int .i64 (n.refused false)]) ∧ Below u.heap.size u u' := by
  have H1 := hide (fun (v : World) (hb : Below u.heap.size u v) => nRefused n a false v (h.below hb))
  obtain ⟨N, hN⟩ : ∃ N, N = u.heap.size := ⟨_, rfl⟩
  have HN := hide hN
  rw [← hN] at H1 ⊢
  clear hN h
  rw [Nv.v_eq] at H1 ⊢
  generalize n.refused false = rf at *
  have hcb : (rf == 0) = false := beq_false_of_ne hc
  obtain ⟨ca, cc, ka, kc, ga, gc⟩ := a
  unfold zeroV
  generalize n.cells.length = cn at *
  generalize n.keys.length = kn at *
  generalize n.kids.length = gn at *
  generalize n.leaf = lf at *
  go_enter Try.func44, Try.ntmps44
  go_wp2_with (first
    | ((with_reducible refine wpList_box_node (by rfl) (.tmp 0) (by rfl) (some 4) (by rfl) N (unhide HN) lf ca cn cc ka kn kc ga gn gc (by with_unfolding_all rfl) ?_); intro W0 HX0 HB0 HS0; simp only [Act.put, List.setIfInBounds_toArray, List.set_cons_zero, List.set_cons_succ])
    | ((with_reducible refine wpList_alloc_node (by rfl) (by rfl) (some 8) (by rfl) (N + 1) (unhide HS0).symm ?_); intro W1 HX1 HB1 HS1; simp only [Act.put, List.setIfInBounds_toArray, List.set_cons_zero, List.set_cons_succ]; have HX2 := hide (((unhide HB1).block N (Nat.lt_succ_self N)).trans (unhide HX0)); obtain ⟨y0, y1, y2, y3⟩ := box4 (unhide HX2))
    | fail)
  have HG1 : Hid (Gs u W1 N (.cells #[.bool lf, .slice ca cn cc, .slice ka kn kc, .slice ga gn gc] 26 (0, 0)) (.cells #[.bool false, .slice none 0 0, .slice none 0 0, .slice none 0 0] 26 (0, 0))) := ⟨⟨(unhide HB0).trans ((unhide HB1).mono (Nat.le_succ N)), unhide HX2⟩, unhide HX1⟩
  clear HX0 HB0 HS0 HB1 HS1 HX1 HX2
  refine (unhide H1 _ (unhide HG1).1.1).mono ?_
  rintro e W3 ⟨rfl, hb3⟩
  have HG3 := hide ((unhide HG1).below hb3)
  clear hb3 y0 y1 y2 y3 HG1
  obtain ⟨y0, y1, y2, y3⟩ := box4 (unhide HG3).1.2
  have HX6 : Hid (W3.heap[N + 1]? = some (.cells #[.bool false, .slice none 0 0, .slice none 0 0, .slice none 0 0] 26 (0, 0))) := (unhide HG3).2
  go_wp2_with (first
    | ((with_reducible refine wpList_store_node (by rfl) (.tmp 8) (.tmp 15) (by rfl) (N + 1) false none 0 0 none 0 0 none 0 0 (by with_unfolding_all rfl) (by with_unfolding_all rfl) (unhide HX6) ?_); intro W8 HX11 HE11; simp only [Act.put])
    | fail)
  have HW8 : Hid (Below N u W8) := by rw [unhide HE11]; exact belowRow (unhide HG3).1.1 (Nat.le_succ N) _
  clear HE11
  refine bodyPost_ret (results_cell_tmp rfl _ _ (N + 1) 26 #[.bool false, .slice none 0 0, .slice none 0 0, .slice none 0 0] (0, 0) _ rfl (unhide HX11) nodeUnd rfl nodeInfo) rfl ?_
  exact ⟨rfl, unhide HW8⟩
open Classical in
set_option maxRecDepth 100000 in
set_option maxHeartbeats 4000000 in
theorem nGrowBd (n : Nd) (a : Nv) (i : Int) (key : ByteArray) (kid : Nat) (u : World) (h : NdAt u n a) (hc : n.refused false = 0) (hbad : i < 0 ∨ (n.kids.length : Int) ≤ i ∨ ¬ keyOk key ∨ kid = 0) : Calls Try.prog 44 #[a.v n, .int .i64 i, .string key, .int .u32 (kid : Int)] u fun e u' => e = .returned (.tuple #[zeroV, .int .i64 1]) ∧ Below u.heap.size u u' := by
  have H1 := hide (fun (v : World) (hb : Below u.heap.size u v) => nRefused n a false v (h.below hb))
  have hle := (Nd.refused_zero.1 hc).1.lens
  have hgi : (n.kids.length : Int) ≤ 1993 := by omega
  clear hle
  have H2 := hide (fun v : World => nKeyMay key v)
  obtain ⟨b, hb⟩ : ∃ b, b = decide (keyOk key) := ⟨_, rfl⟩
  rw [← hb] at H2
  have hcs : i < 0 ∨ (¬ i < 0 ∧ (n.kids.length : Int) ≤ i) ∨ (¬ i < 0 ∧ ¬ (n.kids.length : Int) ≤ i ∧ b = false) ∨ (¬ i < 0 ∧ ¬ (n.kids.length : Int) ≤ i ∧ kid = 0) := by
    by_cases q1 : i < 0
    · exact .inl q1
    · by_cases q2 : (n.kids.length : Int) ≤ i
      · exact .inr (.inl ⟨q1, q2⟩)
      · rcases hbad with q | q | q | q
        · exact absurd q q1
        · exact absurd q q2
        · exact .inr (.inr (.inl ⟨q1, q2, by rw [hb]; exact decide_eq_false q⟩))
        · exact .inr (.inr (.inr ⟨q1, q2, q⟩))
  clear hbad hb
  obtain ⟨N, hN⟩ : ∃ N, N = u.heap.size := ⟨_, rfl⟩
  have HN := hide hN
  rw [← hN] at H1 ⊢
  clear hN h
  rw [Nv.v_eq] at H1 ⊢
  rw [hc] at H1
  clear hc
  obtain ⟨ca, cc, ka, kc, ga, gc⟩ := a
  unfold zeroV
  generalize n.cells.length = cn at *
  generalize n.keys.length = kn at *
  generalize n.kids.length = gn at *
  generalize n.leaf = lf at *
  rcases hcs with hi0 | ⟨hi0, hge⟩ | ⟨hi0, hge, rfl⟩ | ⟨hi0, hge, rfl⟩
  · go_enter Try.func44, Try.ntmps44
    go_wp2_with (first
      | ((with_reducible refine wpList_box_node (by rfl) (.tmp 0) (by rfl) (some 4) (by rfl) N (unhide HN) lf ca cn cc ka kn kc ga gn gc (by with_unfolding_all rfl) ?_); intro W0 HX0 HB0 HS0; simp only [Act.put, List.setIfInBounds_toArray, List.set_cons_zero, List.set_cons_succ])
      | ((with_reducible refine wpList_alloc_node (by rfl) (by rfl) (some 8) (by rfl) (N + 1) (unhide HS0).symm ?_); intro W1 HX1 HB1 HS1; simp only [Act.put, List.setIfInBounds_toArray, List.set_cons_zero, List.set_cons_succ]; have HX2 := hide (((unhide HB1).block N (Nat.lt_succ_self N)).trans (unhide HX0)); obtain ⟨y0, y1, y2, y3⟩ := box4 (unhide HX2))
      | fail)
    have HG1 : Hid (Gs u W1 N (.cells #[.bool lf, .slice ca cn cc, .slice ka kn kc, .slice ga gn gc] 26 (0, 0)) (.cells #[.bool false, .slice none 0 0, .slice none 0 0, .slice none 0 0] 26 (0, 0))) := ⟨⟨(unhide HB0).trans ((unhide HB1).mono (Nat.le_succ N)), unhide HX2⟩, unhide HX1⟩
    clear HX0 HB0 HS0 HB1 HS1 HX1 HX2
    refine (unhide H1 _ (unhide HG1).1.1).mono ?_
    rintro e W3 ⟨rfl, hb3⟩
    have HG3 := hide ((unhide HG1).below hb3)
    clear hb3 y0 y1 y2 y3 HG1
    obtain ⟨y0, y1, y2, y3⟩ := box4 (unhide HG3).1.2
    have HX6 : Hid (W3.heap[N + 1]? = some (.cells #[.bool false, .slice none 0 0, .slice none 0 0, .slice none 0 0] 26 (0, 0))) := (unhide HG3).2
    go_wp2_with (first
      | ((with_reducible refine wpList_store_node (by rfl) (.tmp 8) (.tmp 35) (by rfl) (N + 1) false none 0 0 none 0 0 none 0 0 (by with_unfolding_all rfl) (by with_unfolding_all rfl) (unhide HX6) ?_); intro W8 HX11 HE11; simp only [Act.put])
      | fail)
    have HW8 : Hid (Below N u W8) := by rw [unhide HE11]; exact belowRow (unhide HG3).1.1 (Nat.le_succ N) _
    clear HE11
    refine bodyPost_ret (results_cell_tmp rfl _ _ (N + 1) 26 #[.bool false, .slice none 0 0, .slice none 0 0, .slice none 0 0] (0, 0) _ rfl (unhide HX11) nodeUnd rfl nodeInfo) rfl ?_
    exact ⟨rfl, unhide HW8⟩
  · go_enter Try.func44, Try.ntmps44
    go_wp2_with (first
      | ((with_reducible refine wpList_box_node (by rfl) (.tmp 0) (by rfl) (some 4) (by rfl) N (unhide HN) lf ca cn cc ka kn kc ga gn gc (by with_unfolding_all rfl) ?_); intro W0 HX0 HB0 HS0; simp only [Act.put, List.setIfInBounds_toArray, List.set_cons_zero, List.set_cons_succ])
      | ((with_reducible refine wpList_alloc_node (by rfl) (by rfl) (some 8) (by rfl) (N + 1) (unhide HS0).symm ?_); intro W1 HX1 HB1 HS1; simp only [Act.put, List.setIfInBounds_toArray, List.set_cons_zero, List.set_cons_succ]; have HX2 := hide (((unhide HB1).block N (Nat.lt_succ_self N)).trans (unhide HX0)); obtain ⟨y0, y1, y2, y3⟩ := box4 (unhide HX2))
      | fail)
    have HG1 : Hid (Gs u W1 N (.cells #[.bool lf, .slice ca cn cc, .slice ka kn kc, .slice ga gn gc] 26 (0, 0)) (.cells #[.bool false, .slice none 0 0, .slice none 0 0, .slice none 0 0] 26 (0, 0))) := ⟨⟨(unhide HB0).trans ((unhide HB1).mono (Nat.le_succ N)), unhide HX2⟩, unhide HX1⟩
    clear HX0 HB0 HS0 HB1 HS1 HX1 HX2
    refine (unhide H1 _ (unhide HG1).1.1).mono ?_
    rintro e W3 ⟨rfl, hb3⟩
    have HG3 := hide ((unhide HG1).below hb3)
    clear hb3 y0 y1 y2 y3 HG1
    obtain ⟨y0, y1, y2, y3⟩ := box4 (unhide HG3).1.2
    have HX6 : Hid (W3.heap[N + 1]? = some (.cells #[.bool false, .slice none 0 0, .slice none 0 0, .slice none 0 0] 26 (0, 0))) := (unhide HG3).2
    go_wp2_with (first
      | ((with_reducible refine wpList_store_node (by rfl) (.tmp 8) (.tmp 35) (by rfl) (N + 1) false none 0 0 none 0 0 none 0 0 (by with_unfolding_all rfl) (by with_unfolding_all rfl) (unhide HX6) ?_); intro W8 HX11 HE11; simp only [Act.put])
      | fail)
    have HW8 : Hid (Below N u W8) := by rw [unhide HE11]; exact belowRow (unhide HG3).1.1 (Nat.le_succ N) _
    clear HE11
    refine bodyPost_ret (results_cell_tmp rfl _ _ (N + 1) 26 #[.bool false, .slice none 0 0, .slice none 0 0, .slice none 0 0] (0, 0) _ rfl (unhide HX11) nodeUnd rfl nodeInfo) rfl ?_
    exact ⟨rfl, unhide HW8⟩
  · go_enter Try.func44, Try.ntmps44
    go_wp2_with (first
      | ((with_reducible refine wpList_box_node (by rfl) (.tmp 0) (by rfl) (some 4) (by rfl) N (unhide HN) lf ca cn cc ka kn kc ga gn gc (by with_unfolding_all rfl) ?_); intro W0 HX0 HB0 HS0; simp only [Act.put, List.setIfInBounds_toArray, List.set_cons_zero, List.set_cons_succ])
      | ((with_reducible refine wpList_alloc_node (by rfl) (by rfl) (some 8) (by rfl) (N + 1) (unhide HS0).symm ?_); intro W1 HX1 HB1 HS1; simp only [Act.put, List.setIfInBounds_toArray, List.set_cons_zero, List.set_cons_succ]; have HX2 := hide (((unhide HB1).block N (Nat.lt_succ_self N)).trans (unhide HX0)); obtain ⟨y0, y1, y2, y3⟩ := box4 (unhide HX2))
      | fail)
    have HG1 : Hid (Gs u W1 N (.cells #[.bool lf, .slice ca cn cc, .slice ka kn kc, .slice ga gn gc] 26 (0, 0)) (.cells #[.bool false, .slice none 0 0, .slice none 0 0, .slice none 0 0] 26 (0, 0))) := ⟨⟨(unhide HB0).trans ((unhide HB1).mono (Nat.le_succ N)), unhide HX2⟩, unhide HX1⟩
    clear HX0 HB0 HS0 HB1 HS1 HX1 HX2
    refine (unhide H1 _ (unhide HG1).1.1).mono ?_
    rintro e W3 ⟨rfl, hb3⟩
    have HG3 := hide ((unhide HG1).below hb3)
    clear hb3 y0 y1 y2 y3 HG1
    obtain ⟨y0, y1, y2, y3⟩ := box4 (unhide HG3).1.2
    have HX6 : Hid (W3.heap[N + 1]? = some (.cells #[.bool false, .slice none 0 0, .slice none 0 0, .slice none 0 0] 26 (0, 0))) := (unhide HG3).2
    go_wp2_with fail
    refine (unhide H2 _).mono ?_
    rintro e W4 ⟨rfl, hw4⟩
    obtain rfl := hw4.symm
    clear hw4
    go_wp2_with (first
      | ((with_reducible refine wpList_store_node (by rfl) (.tmp 8) (.tmp 35) (by rfl) (N + 1) false none 0 0 none 0 0 none 0 0 (by with_unfolding_all rfl) (by with_unfolding_all rfl) (unhide HX6) ?_); intro W8 HX11 HE11; simp only [Act.put])
      | fail)
    have HW8 : Hid (Below N u W8) := by rw [unhide HE11]; exact belowRow (unhide HG3).1.1 (Nat.le_succ N) _
    clear HE11
    refine bodyPost_ret (results_cell_tmp rfl _ _ (N + 1) 26 #[.bool false, .slice none 0 0, .slice none 0 0, .slice none 0 0] (0, 0) _ rfl (unhide HX11) nodeUnd rfl nodeInfo) rfl ?_
    exact ⟨rfl, unhide HW8⟩
  · have hz0 : (((0 : Nat) : Int) == 0) = true := rfl
    cases b
    all_goals
      go_enter Try.func44, Try.ntmps44
      go_wp2_with (first
        | ((with_reducible refine wpList_box_node (by rfl) (.tmp 0) (by rfl) (some 4) (by rfl) N (unhide HN) lf ca cn cc ka kn kc ga gn gc (by with_unfolding_all rfl) ?_); intro W0 HX0 HB0 HS0; simp only [Act.put, List.setIfInBounds_toArray, List.set_cons_zero, List.set_cons_succ])
        | ((with_reducible refine wpList_alloc_node (by rfl) (by rfl) (some 8) (by rfl) (N + 1) (unhide HS0).symm ?_); intro W1 HX1 HB1 HS1; simp only [Act.put, List.setIfInBounds_toArray, List.set_cons_zero, List.set_cons_succ]; have HX2 := hide (((unhide HB1).block N (Nat.lt_succ_self N)).trans (unhide HX0)); obtain ⟨y0, y1, y2, y3⟩ := box4 (unhide HX2))
        | fail)
      have HG1 : Hid (Gs u W1 N (.cells #[.bool lf, .slice ca cn cc, .slice ka kn kc, .slice ga gn gc] 26 (0, 0)) (.cells #[.bool false, .slice none 0 0, .slice none 0 0, .slice none 0 0] 26 (0, 0))) := ⟨⟨(unhide HB0).trans ((unhide HB1).mono (Nat.le_succ N)), unhide HX2⟩, unhide HX1⟩
      clear HX0 HB0 HS0 HB1 HS1 HX1 HX2
      refine (unhide H1 _ (unhide HG1).1.1).mono ?_
      rintro e W3 ⟨rfl, hb3⟩
      have HG3 := hide ((unhide HG1).below hb3)
      clear hb3 y0 y1 y2 y3 HG1
      obtain ⟨y0, y1, y2, y3⟩ := box4 (unhide HG3).1.2
      have HX6 : Hid (W3.heap[N + 1]? = some (.cells #[.bool false, .slice none 0 0, .slice none 0 0, .slice none 0 0] 26 (0, 0))) := (unhide HG3).2
      go_wp2_with fail
      refine (unhide H2 _).mono ?_
      rintro e W4 ⟨rfl, hw4⟩
      obtain rfl := hw4.symm
      clear hw4
      go_wp2_with (first
        | ((with_reducible refine wpList_store_node (by rfl) (.tmp 8) (.tmp 35) (by rfl) (N + 1) false none 0 0 none 0 0 none 0 0 (by with_unfolding_all rfl) (by with_unfolding_all rfl) (unhide HX6) ?_); intro W8 HX11 HE11; simp only [Act.put])
        | fail)
      have HW8 : Hid (Below N u W8) := by rw [unhide HE11]; exact belowRow (unhide HG3).1.1 (Nat.le_succ N) _
      clear HE11
      refine bodyPost_ret (results_cell_tmp rfl _ _ (N + 1) 26 #[.bool false, .slice none 0 0, .slice none 0 0, .slice none 0 0] (0, 0) _ rfl (unhide HX11) nodeUnd rfl nodeInfo) rfl ?_
      exact ⟨rfl, unhide HW8⟩
open Classical in
set_option maxRecDepth 100000 in
set_option maxHeartbeats 4000000 in
theorem rGrowNo (n : Nd) (a : Nv) (i : Int) (key : ByteArray) (kid : Nat) (u : World) (h : NdAt u n a) (hsm : n.Kind → n.cells.length + n.keys.length ≤ 8796093022208) (hc : n.refused false ≠ 0) : Calls Try.prog 46 #[a.v n, .int .i64 i, .string key, .int .u32 (kid : Int)] u fun e u' => e = .returned (.tuple #[zeroV, .int .i64 (n.refused false)]) ∧ Below u.heap.size u u' := by
  have H1 := hide (fun (v : World) (hb : Below u.heap.size u v) => rBranch n a v (h.below hb) hsm)
  obtain ⟨N, hN⟩ : ∃ N, N = u.heap.size := ⟨_, rfl⟩
  have HN := hide hN
  rw [← hN] at H1 ⊢
  clear hN h hsm
  rw [Nv.v_eq] at H1 ⊢
  generalize n.refused false = rf at *
  have hcb : (rf == 0) = false := beq_false_of_ne hc
  obtain ⟨ca, cc, ka, kc, ga, gc⟩ := a
  unfold zeroV
  generalize n.cells.length = cn at *
  generalize n.keys.length = kn at *
  generalize n.kids.length = gn at *
  generalize n.leaf = lf at *
  go_enter Try.func46, Try.ntmps46
  go_wp2_with (first
    | ((with_reducible refine wpList_box_node (by rfl) (.tmp 0) (by rfl) (some 4) (by rfl) N (unhide HN) lf ca cn cc ka kn kc ga gn gc (by with_unfolding_all rfl) ?_); intro W0 HX0 HB0 HS0; simp only [Act.put, List.setIfInBounds_toArray, List.set_cons_zero, List.set_cons_succ])
    | ((with_reducible refine wpList_alloc_node (by rfl) (by rfl) (some 8) (by rfl) (N + 1) (unhide HS0).symm ?_); intro W1 HX1 HB1 HS1; simp only [Act.put, List.setIfInBounds_toArray, List.set_cons_zero, List.set_cons_succ]; have HX2 := hide (((unhide HB1).block N (Nat.lt_succ_self N)).trans (unhide HX0)); obtain ⟨y0, y1, y2, y3⟩ := box4 (unhide HX2))
    | fail)
  have HG1 : Hid (Gs u W1 N (.cells #[.bool lf, .slice ca cn cc, .slice ka kn kc, .slice ga gn gc] 26 (0, 0)) (.cells #[.bool false, .slice none 0 0, .slice none 0 0, .slice none 0 0] 26 (0, 0))) := ⟨⟨(unhide HB0).trans ((unhide HB1).mono (Nat.le_succ N)), unhide HX2⟩, unhide HX1⟩
  clear HX0 HB0 HS0 HB1 HS1 HX1 HX2
  refine (unhide H1 _ (unhide HG1).1.1).mono ?_
  rintro e W3 ⟨rfl, hb3⟩
  have HG3 := hide ((unhide HG1).below hb3)
  clear hb3 y0 y1 y2 y3 HG1
  obtain ⟨y0, y1, y2, y3⟩ := box4 (unhide HG3).1.2
  have HX6 : Hid (W3.heap[N + 1]? = some (.cells #[.bool false, .slice none 0 0, .slice none 0 0, .slice none 0 0] 26 (0, 0))) := (unhide HG3).2
  go_wp2_with (first
    | ((with_reducible refine wpList_store_node (by rfl) (.tmp 8) (.tmp 17) (by rfl) (N + 1) false none 0 0 none 0 0 none 0 0 (by with_unfolding_all rfl) (by with_unfolding_all rfl) (unhide HX6) ?_); intro W8 HX11 HE11; simp only [Act.put])
    | fail)
  have HW8 : Hid (Below N u W8) := by rw [unhide HE11]; exact belowRow (unhide HG3).1.1 (Nat.le_succ N) _
  clear HE11
  refine bodyPost_ret (results_cell_tmp rfl _ _ (N + 1) 26 #[.bool false, .slice none 0 0, .slice none 0 0, .slice none 0 0] (0, 0) _ rfl (unhide HX11) nodeUnd rfl nodeInfo) rfl ?_
  exact ⟨rfl, unhide HW8⟩
open Classical in
set_option maxRecDepth 100000 in
set_option maxHeartbeats 4000000 in
theorem rGrowBd (n : Nd) (a : Nv) (i : Int) (key : ByteArray) (kid : Nat) (u : World) (h : NdAt u n a) (hsm : n.Kind → n.cells.length + n.keys.length ≤ 8796093022208) (hc : n.refused false = 0) (hbad : i < 0 ∨ (n.kids.length : Int) ≤ i ∨ ¬ keyOk key ∨ kid = 0) : Calls Try.prog 46 #[a.v n, .int .i64 i, .string key, .int .u32 (kid : Int)] u fun e u' => e = .returned (.tuple #[zeroV, .int .i64 1]) ∧ Below u.heap.size u u' := by
  have H1 := hide (fun (v : World) (hb : Below u.heap.size u v) => rBranch n a v (h.below hb) hsm)
  have hle := (Nd.refused_zero.1 hc).1.lens
  have hgi : (n.kids.length : Int) ≤ 1993 := by omega
  clear hle
  have H2 := hide (fun v : World => rKeyMay key v)
  obtain ⟨b, hb⟩ : ∃ b, b = decide (keyOk key) := ⟨_, rfl⟩
  rw [← hb] at H2
  have hcs : i < 0 ∨ (¬ i < 0 ∧ (n.kids.length : Int) ≤ i) ∨ (¬ i < 0 ∧ ¬ (n.kids.length : Int) ≤ i ∧ b = false) ∨ (¬ i < 0 ∧ ¬ (n.kids.length : Int) ≤ i ∧ kid = 0) := by
    by_cases q1 : i < 0
    · exact .inl q1
    · by_cases q2 : (n.kids.length : Int) ≤ i
      · exact .inr (.inl ⟨q1, q2⟩)
      · rcases hbad with q | q | q | q
        · exact absurd q q1
        · exact absurd q q2
        · exact .inr (.inr (.inl ⟨q1, q2, by rw [hb]; exact decide_eq_false q⟩))
        · exact .inr (.inr (.inr ⟨q1, q2, q⟩))
  clear hbad hb
  obtain ⟨N, hN⟩ : ∃ N, N = u.heap.size := ⟨_, rfl⟩
  have HN := hide hN
  rw [← hN] at H1 ⊢
  clear hN h hsm
  rw [Nv.v_eq] at H1 ⊢
  rw [hc] at H1
  clear hc
  obtain ⟨ca, cc, ka, kc, ga, gc⟩ := a
  unfold zeroV
  generalize n.cells.length = cn at *
  generalize n.keys.length = kn at *
  generalize n.kids.length = gn at *
  generalize n.leaf = lf at *
  rcases hcs with hi0 | ⟨hi0, hge⟩ | ⟨hi0, hge, rfl⟩ | ⟨hi0, hge, rfl⟩
  · go_enter Try.func46, Try.ntmps46
    go_wp2_with (first
      | ((with_reducible refine wpList_box_node (by rfl) (.tmp 0) (by rfl) (some 4) (by rfl) N (unhide HN) lf ca cn cc ka kn kc ga gn gc (by with_unfolding_all rfl) ?_); intro W0 HX0 HB0 HS0; simp only [Act.put, List.setIfInBounds_toArray, List.set_cons_zero, List.set_cons_succ])
      | ((with_reducible refine wpList_alloc_node (by rfl) (by rfl) (some 8) (by rfl) (N + 1) (unhide HS0).symm ?_); intro W1 HX1 HB1 HS1; simp only [Act.put, List.setIfInBounds_toArray, List.set_cons_zero, List.set_cons_succ]; have HX2 := hide (((unhide HB1).block N (Nat.lt_succ_self N)).trans (unhide HX0)); obtain ⟨y0, y1, y2, y3⟩ := box4 (unhide HX2))
      | fail)
    have HG1 : Hid (Gs u W1 N (.cells #[.bool lf, .slice ca cn cc, .slice ka kn kc, .slice ga gn gc] 26 (0, 0)) (.cells #[.bool false, .slice none 0 0, .slice none 0 0, .slice none 0 0] 26 (0, 0))) := ⟨⟨(unhide HB0).trans ((unhide HB1).mono (Nat.le_succ N)), unhide HX2⟩, unhide HX1⟩
    clear HX0 HB0 HS0 HB1 HS1 HX1 HX2
    refine (unhide H1 _ (unhide HG1).1.1).mono ?_
    rintro e W3 ⟨rfl, hb3⟩
    have HG3 := hide ((unhide HG1).below hb3)
    clear hb3 y0 y1 y2 y3 HG1
    obtain ⟨y0, y1, y2, y3⟩ := box4 (unhide HG3).1.2
    have HX6 : Hid (W3.heap[N + 1]? = some (.cells #[.bool false, .slice none 0 0, .slice none 0 0, .slice none 0 0] 26 (0, 0))) := (unhide HG3).2
    go_wp2_with (first
      | ((with_reducible refine wpList_store_node (by rfl) (.tmp 8) (.tmp 37) (by rfl) (N + 1) false none 0 0 none 0 0 none 0 0 (by with_unfolding_all rfl) (by with_unfolding_all rfl) (unhide HX6) ?_); intro W8 HX11 HE11; simp only [Act.put])
      | fail)
    have HW8 : Hid (Below N u W8) := by rw [unhide HE11]; exact belowRow (unhide HG3).1.1 (Nat.le_succ N) _
    clear HE11
    refine bodyPost_ret (results_cell_tmp rfl _ _ (N + 1) 26 #[.bool false, .slice none 0 0, .slice none 0 0, .slice none 0 0] (0, 0) _ rfl (unhide HX11) nodeUnd rfl nodeInfo) rfl ?_
    exact ⟨rfl, unhide HW8⟩
  · go_enter Try.func46, Try.ntmps46
    go_wp2_with (first
      | ((with_reducible refine wpList_box_node (by rfl) (.tmp 0) (by rfl) (some 4) (by rfl) N (unhide HN) lf ca cn cc ka kn kc ga gn gc (by with_unfolding_all rfl) ?_); intro W0 HX0 HB0 HS0; simp only [Act.put, List.setIfInBounds_toArray, List.set_cons_zero, List.set_cons_succ])
      | ((with_reducible refine wpList_alloc_node (by rfl) (by rfl) (some 8) (by rfl) (N + 1) (unhide HS0).symm ?_); intro W1 HX1 HB1 HS1; simp only [Act.put, List.setIfInBounds_toArray, List.set_cons_zero, List.set_cons_succ]; have HX2 := hide (((unhide HB1).block N (Nat.lt_succ_self N)).trans (unhide HX0)); obtain ⟨y0, y1, y2, y3⟩ := box4 (unhide HX2))
      | fail)
    have HG1 : Hid (Gs u W1 N (.cells #[.bool lf, .slice ca cn cc, .slice ka kn kc, .slice ga gn gc] 26 (0, 0)) (.cells #[.bool false, .slice none 0 0, .slice none 0 0, .slice none 0 0] 26 (0, 0))) := ⟨⟨(unhide HB0).trans ((unhide HB1).mono (Nat.le_succ N)), unhide HX2⟩, unhide HX1⟩
    clear HX0 HB0 HS0 HB1 HS1 HX1 HX2
    refine (unhide H1 _ (unhide HG1).1.1).mono ?_
    rintro e W3 ⟨rfl, hb3⟩
    have HG3 := hide ((unhide HG1).below hb3)
    clear hb3 y0 y1 y2 y3 HG1
    obtain ⟨y0, y1, y2, y3⟩ := box4 (unhide HG3).1.2
    have HX6 : Hid (W3.heap[N + 1]? = some (.cells #[.bool false, .slice none 0 0, .slice none 0 0, .slice none 0 0] 26 (0, 0))) := (unhide HG3).2
    go_wp2_with (first
      | ((with_reducible refine wpList_store_node (by rfl) (.tmp 8) (.tmp 37) (by rfl) (N + 1) false none 0 0 none 0 0 none 0 0 (by with_unfolding_all rfl) (by with_unfolding_all rfl) (unhide HX6) ?_); intro W8 HX11 HE11; simp only [Act.put])
      | fail)
    have HW8 : Hid (Below N u W8) := by rw [unhide HE11]; exact belowRow (unhide HG3).1.1 (Nat.le_succ N) _
    clear HE11
    refine bodyPost_ret (results_cell_tmp rfl _ _ (N + 1) 26 #[.bool false, .slice none 0 0, .slice none 0 0, .slice none 0 0] (0, 0) _ rfl (unhide HX11) nodeUnd rfl nodeInfo) rfl ?_
    exact ⟨rfl, unhide HW8⟩
  · go_enter Try.func46, Try.ntmps46
    go_wp2_with (first
      | ((with_reducible refine wpList_box_node (by rfl) (.tmp 0) (by rfl) (some 4) (by rfl) N (unhide HN) lf ca cn cc ka kn kc ga gn gc (by with_unfolding_all rfl) ?_); intro W0 HX0 HB0 HS0; simp only [Act.put, List.setIfInBounds_toArray, List.set_cons_zero, List.set_cons_succ])
      | ((with_reducible refine wpList_alloc_node (by rfl) (by rfl) (some 8) (by rfl) (N + 1) (unhide HS0).symm ?_); intro W1 HX1 HB1 HS1; simp only [Act.put, List.setIfInBounds_toArray, List.set_cons_zero, List.set_cons_succ]; have HX2 := hide (((unhide HB1).block N (Nat.lt_succ_self N)).trans (unhide HX0)); obtain ⟨y0, y1, y2, y3⟩ := box4 (unhide HX2))
      | fail)
    have HG1 : Hid (Gs u W1 N (.cells #[.bool lf, .slice ca cn cc, .slice ka kn kc, .slice ga gn gc] 26 (0, 0)) (.cells #[.bool false, .slice none 0 0, .slice none 0 0, .slice none 0 0] 26 (0, 0))) := ⟨⟨(unhide HB0).trans ((unhide HB1).mono (Nat.le_succ N)), unhide HX2⟩, unhide HX1⟩
    clear HX0 HB0 HS0 HB1 HS1 HX1 HX2
    refine (unhide H1 _ (unhide HG1).1.1).mono ?_
    rintro e W3 ⟨rfl, hb3⟩
    have HG3 := hide ((unhide HG1).below hb3)
    clear hb3 y0 y1 y2 y3 HG1
    obtain ⟨y0, y1, y2, y3⟩ := box4 (unhide HG3).1.2
    have HX6 : Hid (W3.heap[N + 1]? = some (.cells #[.bool false, .slice none 0 0, .slice none 0 0, .slice none 0 0] 26 (0, 0))) := (unhide HG3).2
    go_wp2_with fail
    refine (unhide H2 _).mono ?_
    rintro e W4 ⟨rfl, hw4⟩
    obtain rfl := hw4.symm
    clear hw4
    go_wp2_with (first
      | ((with_reducible refine wpList_store_node (by rfl) (.tmp 8) (.tmp 37) (by rfl) (N + 1) false none 0 0 none 0 0 none 0 0 (by with_unfolding_all rfl) (by with_unfolding_all rfl) (unhide HX6) ?_); intro W8 HX11 HE11; simp only [Act.put])
      | fail)
    have HW8 : Hid (Below N u W8) := by rw [unhide HE11]; exact belowRow (unhide HG3).1.1 (Nat.le_succ N) _
    clear HE11
    refine bodyPost_ret (results_cell_tmp rfl _ _ (N + 1) 26 #[.bool false, .slice none 0 0, .slice none 0 0, .slice none 0 0] (0, 0) _ rfl (unhide HX11) nodeUnd rfl nodeInfo) rfl ?_
    exact ⟨rfl, unhide HW8⟩
  · have hz0 : (((0 : Nat) : Int) == 0) = true := rfl
    cases b
    all_goals
      go_enter Try.func46, Try.ntmps46
      go_wp2_with (first
        | ((with_reducible refine wpList_box_node (by rfl) (.tmp 0) (by rfl) (some 4) (by rfl) N (unhide HN) lf ca cn cc ka kn kc ga gn gc (by with_unfolding_all rfl) ?_); intro W0 HX0 HB0 HS0; simp only [Act.put, List.setIfInBounds_toArray, List.set_cons_zero, List.set_cons_succ])
        | ((with_reducible refine wpList_alloc_node (by rfl) (by rfl) (some 8) (by rfl) (N + 1) (unhide HS0).symm ?_); intro W1 HX1 HB1 HS1; simp only [Act.put, List.setIfInBounds_toArray, List.set_cons_zero, List.set_cons_succ]; have HX2 := hide (((unhide HB1).block N (Nat.lt_succ_self N)).trans (unhide HX0)); obtain ⟨y0, y1, y2, y3⟩ := box4 (unhide HX2))
        | fail)
      have HG1 : Hid (Gs u W1 N (.cells #[.bool lf, .slice ca cn cc, .slice ka kn kc, .slice ga gn gc] 26 (0, 0)) (.cells #[.bool false, .slice none 0 0, .slice none 0 0, .slice none 0 0] 26 (0, 0))) := ⟨⟨(unhide HB0).trans ((unhide HB1).mono (Nat.le_succ N)), unhide HX2⟩, unhide HX1⟩
      clear HX0 HB0 HS0 HB1 HS1 HX1 HX2
      refine (unhide H1 _ (unhide HG1).1.1).mono ?_
      rintro e W3 ⟨rfl, hb3⟩
      have HG3 := hide ((unhide HG1).below hb3)
      clear hb3 y0 y1 y2 y3 HG1
      obtain ⟨y0, y1, y2, y3⟩ := box4 (unhide HG3).1.2
      have HX6 : Hid (W3.heap[N + 1]? = some (.cells #[.bool false, .slice none 0 0, .slice none 0 0, .slice none 0 0] 26 (0, 0))) := (unhide HG3).2
      go_wp2_with fail
      refine (unhide H2 _).mono ?_
      rintro e W4 ⟨rfl, hw4⟩
      obtain rfl := hw4.symm
      clear hw4
      go_wp2_with (first
        | ((with_reducible refine wpList_store_node (by rfl) (.tmp 8) (.tmp 37) (by rfl) (N + 1) false none 0 0 none 0 0 none 0 0 (by with_unfolding_all rfl) (by with_unfolding_all rfl) (unhide HX6) ?_); intro W8 HX11 HE11; simp only [Act.put])
        | fail)
      have HW8 : Hid (Below N u W8) := by rw [unhide HE11]; exact belowRow (unhide HG3).1.1 (Nat.le_succ N) _
      clear HE11
      refine bodyPost_ret (results_cell_tmp rfl _ _ (N + 1) 26 #[.bool false, .slice none 0 0, .slice none 0 0, .slice none 0 0] (0, 0) _ rfl (unhide HX11) nodeUnd rfl nodeInfo) rfl ?_
      exact ⟨rfl, unhide HW8⟩
open Classical in
set_option maxRecDepth 100000 in
set_option maxHeartbeats 4000000 in
theorem nShrinkNo (n : Nd) (a : Nv) (i : Int) (u : World) (h : NdAt u n a) (hc : n.refused false ≠ 0) : Calls Try.prog 48 #[a.v n, .int .i64 i] u fun e u' => e = .returned (.tuple #[zeroV, .int .i64 (n.refused false)]) ∧ Below u.heap.size u u' := by
  have H1 := hide (fun (v : World) (hb : Below u.heap.size u v) => nRefused n a false v (h.below hb))
  obtain ⟨N, hN⟩ : ∃ N, N = u.heap.size := ⟨_, rfl⟩
  have HN := hide hN
  rw [← hN] at H1 ⊢
  clear hN h
  rw [Nv.v_eq] at H1 ⊢
  generalize n.refused false = rf at *
  have hcb : (rf == 0) = false := beq_false_of_ne hc
  obtain ⟨ca, cc, ka, kc, ga, gc⟩ := a
  unfold zeroV
  generalize n.cells.length = cn at *
  generalize n.keys.length = kn at *
  generalize n.kids.length = gn at *
  generalize n.leaf = lf at *
  go_enter Try.func48, Try.ntmps48
  go_wp2_with (first
    | ((with_reducible refine wpList_box_node (by rfl) (.tmp 0) (by rfl) (some 2) (by rfl) N (unhide HN) lf ca cn cc ka kn kc ga gn gc (by with_unfolding_all rfl) ?_); intro W0 HX0 HB0 HS0; simp only [Act.put, List.setIfInBounds_toArray, List.set_cons_zero, List.set_cons_succ])
    | ((with_reducible refine wpList_alloc_node (by rfl) (by rfl) (some 4) (by rfl) (N + 1) (unhide HS0).symm ?_); intro W1 HX1 HB1 HS1; simp only [Act.put, List.setIfInBounds_toArray, List.set_cons_zero, List.set_cons_succ]; have HX2 := hide (((unhide HB1).block N (Nat.lt_succ_self N)).trans (unhide HX0)); obtain ⟨y0, y1, y2, y3⟩ := box4 (unhide HX2))
    | fail)
  have HG1 : Hid (Gs u W1 N (.cells #[.bool lf, .slice ca cn cc, .slice ka kn kc, .slice ga gn gc] 26 (0, 0)) (.cells #[.bool false, .slice none 0 0, .slice none 0 0, .slice none 0 0] 26 (0, 0))) := ⟨⟨(unhide HB0).trans ((unhide HB1).mono (Nat.le_succ N)), unhide HX2⟩, unhide HX1⟩
  clear HX0 HB0 HS0 HB1 HS1 HX1 HX2
  refine (unhide H1 _ (unhide HG1).1.1).mono ?_
  rintro e W3 ⟨rfl, hb3⟩
  have HG3 := hide ((unhide HG1).below hb3)
  clear hb3 y0 y1 y2 y3 HG1
  obtain ⟨y0, y1, y2, y3⟩ := box4 (unhide HG3).1.2
  have HX6 : Hid (W3.heap[N + 1]? = some (.cells #[.bool false, .slice none 0 0, .slice none 0 0, .slice none 0 0] 26 (0, 0))) := (unhide HG3).2
  go_wp2_with (first
    | ((with_reducible refine wpList_store_node (by rfl) (.tmp 4) (.tmp 11) (by rfl) (N + 1) false none 0 0 none 0 0 none 0 0 (by with_unfolding_all rfl) (by with_unfolding_all rfl) (unhide HX6) ?_); intro W8 HX11 HE11; simp only [Act.put])
    | fail)
  have HW8 : Hid (Below N u W8) := by rw [unhide HE11]; exact belowRow (unhide HG3).1.1 (Nat.le_succ N) _
  clear HE11
  refine bodyPost_ret (results_cell_tmp rfl _ _ (N + 1) 26 #[.bool false, .slice none 0 0, .slice none 0 0, .slice none 0 0] (0, 0) _ rfl (unhide HX11) nodeUnd rfl nodeInfo) rfl ?_
  exact ⟨rfl, unhide HW8⟩
open Classical in
set_option maxRecDepth 100000 in
set_option maxHeartbeats 4000000 in
theorem nShrinkBd (n : Nd) (a : Nv) (i : Int) (u : World) (h : NdAt u n a) (hc : n.refused false = 0) (hbad : i < 0 ∨ (n.keys.length : Int) ≤ i) : Calls Try.prog 48 #[a.v n, .int .i64 i] u fun e u' => e = .returned (.tuple #[zeroV, .int .i64 1]) ∧ Below u.heap.size u u' := by
  have H1 := hide (fun (v : World) (hb : Below u.heap.size u v) => nRefused n a false v (h.below hb))
  have hle := (Nd.refused_zero.1 hc).1.lens
  have hgi : (n.keys.length : Int) ≤ 1993 := by omega
  clear hle
  have hcs : i < 0 ∨ (¬ i < 0 ∧ (n.keys.length : Int) ≤ i) := by
    by_cases q1 : i < 0
    · exact .inl q1
    · by_cases q2 : (n.keys.length : Int) ≤ i
      · exact .inr ⟨q1, q2⟩
      · exact absurd hbad (by rintro (q | q); exact q1 q; exact q2 q)
  clear hbad
  obtain ⟨N, hN⟩ : ∃ N, N = u.heap.size := ⟨_, rfl⟩
  have HN := hide hN
  rw [← hN] at H1 ⊢
  clear hN h
  rw [Nv.v_eq] at H1 ⊢
  rw [hc] at H1
  clear hc
  obtain ⟨ca, cc, ka, kc, ga, gc⟩ := a
  unfold zeroV
  generalize n.cells.length = cn at *
  generalize n.keys.length = kn at *
  generalize n.kids.length = gn at *
  generalize n.leaf = lf at *
  rcases hcs with hi0 | ⟨hi0, hge⟩
  · go_enter Try.func48, Try.ntmps48
    go_wp2_with (first
      | ((with_reducible refine wpList_box_node (by rfl) (.tmp 0) (by rfl) (some 2) (by rfl) N (unhide HN) lf ca cn cc ka kn kc ga gn gc (by with_unfolding_all rfl) ?_); intro W0 HX0 HB0 HS0; simp only [Act.put, List.setIfInBounds_toArray, List.set_cons_zero, List.set_cons_succ])
      | ((with_reducible refine wpList_alloc_node (by rfl) (by rfl) (some 4) (by rfl) (N + 1) (unhide HS0).symm ?_); intro W1 HX1 HB1 HS1; simp only [Act.put, List.setIfInBounds_toArray, List.set_cons_zero, List.set_cons_succ]; have HX2 := hide (((unhide HB1).block N (Nat.lt_succ_self N)).trans (unhide HX0)); obtain ⟨y0, y1, y2, y3⟩ := box4 (unhide HX2))
      | fail)
    have HG1 : Hid (Gs u W1 N (.cells #[.bool lf, .slice ca cn cc, .slice ka kn kc, .slice ga gn gc] 26 (0, 0)) (.cells #[.bool false, .slice none 0 0, .slice none 0 0, .slice none 0 0] 26 (0, 0))) := ⟨⟨(unhide HB0).trans ((unhide HB1).mono (Nat.le_succ N)), unhide HX2⟩, unhide HX1⟩
    clear HX0 HB0 HS0 HB1 HS1 HX1 HX2
    refine (unhide H1 _ (unhide HG1).1.1).mono ?_
    rintro e W3 ⟨rfl, hb3⟩
    have HG3 := hide ((unhide HG1).below hb3)
    clear hb3 y0 y1 y2 y3 HG1
    obtain ⟨y0, y1, y2, y3⟩ := box4 (unhide HG3).1.2
    have HX6 : Hid (W3.heap[N + 1]? = some (.cells #[.bool false, .slice none 0 0, .slice none 0 0, .slice none 0 0] 26 (0, 0))) := (unhide HG3).2
    go_wp2_with (first
      | ((with_reducible refine wpList_store_node (by rfl) (.tmp 4) (.tmp 22) (by rfl) (N + 1) false none 0 0 none 0 0 none 0 0 (by with_unfolding_all rfl) (by with_unfolding_all rfl) (unhide HX6) ?_); intro W8 HX11 HE11; simp only [Act.put])
      | fail)
    have HW8 : Hid (Below N u W8) := by rw [unhide HE11]; exact belowRow (unhide HG3).1.1 (Nat.le_succ N) _
    clear HE11
    refine bodyPost_ret (results_cell_tmp rfl _ _ (N + 1) 26 #[.bool false, .slice none 0 0, .slice none 0 0, .slice none 0 0] (0, 0) _ rfl (unhide HX11) nodeUnd rfl nodeInfo) rfl ?_
    exact ⟨rfl, unhide HW8⟩
  · go_enter Try.func48, Try.ntmps48
    go_wp2_with (first
      | ((with_reducible refine wpList_box_node (by rfl) (.tmp 0) (by rfl) (some 2) (by rfl) N (unhide HN) lf ca cn cc ka kn kc ga gn gc (by with_unfolding_all rfl) ?_); intro W0 HX0 HB0 HS0; simp only [Act.put, List.setIfInBounds_toArray, List.set_cons_zero, List.set_cons_succ])
      | ((with_reducible refine wpList_alloc_node (by rfl) (by rfl) (some 4) (by rfl) (N + 1) (unhide HS0).symm ?_); intro W1 HX1 HB1 HS1; simp only [Act.put, List.setIfInBounds_toArray, List.set_cons_zero, List.set_cons_succ]; have HX2 := hide (((unhide HB1).block N (Nat.lt_succ_self N)).trans (unhide HX0)); obtain ⟨y0, y1, y2, y3⟩ := box4 (unhide HX2))
      | fail)
    have HG1 : Hid (Gs u W1 N (.cells #[.bool lf, .slice ca cn cc, .slice ka kn kc, .slice ga gn gc] 26 (0, 0)) (.cells #[.bool false, .slice none 0 0, .slice none 0 0, .slice none 0 0] 26 (0, 0))) := ⟨⟨(unhide HB0).trans ((unhide HB1).mono (Nat.le_succ N)), unhide HX2⟩, unhide HX1⟩
    clear HX0 HB0 HS0 HB1 HS1 HX1 HX2
    refine (unhide H1 _ (unhide HG1).1.1).mono ?_
    rintro e W3 ⟨rfl, hb3⟩
    have HG3 := hide ((unhide HG1).below hb3)
    clear hb3 y0 y1 y2 y3 HG1
    obtain ⟨y0, y1, y2, y3⟩ := box4 (unhide HG3).1.2
    have HX6 : Hid (W3.heap[N + 1]? = some (.cells #[.bool false, .slice none 0 0, .slice none 0 0, .slice none 0 0] 26 (0, 0))) := (unhide HG3).2
    go_wp2_with (first
      | ((with_reducible refine wpList_store_node (by rfl) (.tmp 4) (.tmp 22) (by rfl) (N + 1) false none 0 0 none 0 0 none 0 0 (by with_unfolding_all rfl) (by with_unfolding_all rfl) (unhide HX6) ?_); intro W8 HX11 HE11; simp only [Act.put])
      | fail)
    have HW8 : Hid (Below N u W8) := by rw [unhide HE11]; exact belowRow (unhide HG3).1.1 (Nat.le_succ N) _
    clear HE11
    refine bodyPost_ret (results_cell_tmp rfl _ _ (N + 1) 26 #[.bool false, .slice none 0 0, .slice none 0 0, .slice none 0 0] (0, 0) _ rfl (unhide HX11) nodeUnd rfl nodeInfo) rfl ?_
    exact ⟨rfl, unhide HW8⟩
open Classical in
set_option maxRecDepth 100000 in
set_option maxHeartbeats 4000000 in
theorem rShrinkNo (n : Nd) (a : Nv) (i : Int) (u : World) (h : NdAt u n a) (hsm : n.Kind → n.cells.length + n.keys.length ≤ 8796093022208) (hc : n.refused false ≠ 0) : Calls Try.prog 50 #[a.v n, .int .i64 i] u fun e u' => e = .returned (.tuple #[zeroV, .int .i64 (n.refused false)]) ∧ Below u.heap.size u u' := by
  have H1 := hide (fun (v : World) (hb : Below u.heap.size u v) => rBranch n a v (h.below hb) hsm)
  obtain ⟨N, hN⟩ : ∃ N, N = u.heap.size := ⟨_, rfl⟩
  have HN := hide hN
  rw [← hN] at H1 ⊢
  clear hN h hsm
  rw [Nv.v_eq] at H1 ⊢
  generalize n.refused false = rf at *
  have hcb : (rf == 0) = false := beq_false_of_ne hc
  obtain ⟨ca, cc, ka, kc, ga, gc⟩ := a
  unfold zeroV
  generalize n.cells.length = cn at *
  generalize n.keys.length = kn at *
  generalize n.kids.length = gn at *
  generalize n.leaf = lf at *
  go_enter Try.func50, Try.ntmps50
  go_wp2_with (first
    | ((with_reducible refine wpList_box_node (by rfl) (.tmp 0) (by rfl) (some 2) (by rfl) N (unhide HN) lf ca cn cc ka kn kc ga gn gc (by with_unfolding_all rfl) ?_); intro W0 HX0 HB0 HS0; simp only [Act.put, List.setIfInBounds_toArray, List.set_cons_zero, List.set_cons_succ])
    | ((with_reducible refine wpList_alloc_node (by rfl) (by rfl) (some 4) (by rfl) (N + 1) (unhide HS0).symm ?_); intro W1 HX1 HB1 HS1; simp only [Act.put, List.setIfInBounds_toArray, List.set_cons_zero, List.set_cons_succ]; have HX2 := hide (((unhide HB1).block N (Nat.lt_succ_self N)).trans (unhide HX0)); obtain ⟨y0, y1, y2, y3⟩ := box4 (unhide HX2))
    | fail)
  have HG1 : Hid (Gs u W1 N (.cells #[.bool lf, .slice ca cn cc, .slice ka kn kc, .slice ga gn gc] 26 (0, 0)) (.cells #[.bool false, .slice none 0 0, .slice none 0 0, .slice none 0 0] 26 (0, 0))) := ⟨⟨(unhide HB0).trans ((unhide HB1).mono (Nat.le_succ N)), unhide HX2⟩, unhide HX1⟩
  clear HX0 HB0 HS0 HB1 HS1 HX1 HX2
  refine (unhide H1 _ (unhide HG1).1.1).mono ?_
  rintro e W3 ⟨rfl, hb3⟩
  have HG3 := hide ((unhide HG1).below hb3)
  clear hb3 y0 y1 y2 y3 HG1
  obtain ⟨y0, y1, y2, y3⟩ := box4 (unhide HG3).1.2
  have HX6 : Hid (W3.heap[N + 1]? = some (.cells #[.bool false, .slice none 0 0, .slice none 0 0, .slice none 0 0] 26 (0, 0))) := (unhide HG3).2
  go_wp2_with (first
    | ((with_reducible refine wpList_store_node (by rfl) (.tmp 4) (.tmp 13) (by rfl) (N + 1) false none 0 0 none 0 0 none 0 0 (by with_unfolding_all rfl) (by with_unfolding_all rfl) (unhide HX6) ?_); intro W8 HX11 HE11; simp only [Act.put])
    | fail)
  have HW8 : Hid (Below N u W8) := by rw [unhide HE11]; exact belowRow (unhide HG3).1.1 (Nat.le_succ N) _
  clear HE11
  refine bodyPost_ret (results_cell_tmp rfl _ _ (N + 1) 26 #[.bool false, .slice none 0 0, .slice none 0 0, .slice none 0 0] (0, 0) _ rfl (unhide HX11) nodeUnd rfl nodeInfo) rfl ?_
  exact ⟨rfl, unhide HW8⟩
open Classical in
set_option maxRecDepth 100000 in
set_option maxHeartbeats 4000000 in
theorem rShrinkBd (n : Nd) (a : Nv) (i : Int) (u : World) (h : NdAt u n a) (hsm : n.Kind → n.cells.length + n.keys.length ≤ 8796093022208) (hc : n.refused false = 0) (hbad : i < 0 ∨ (n.keys.length : Int) ≤ i) : Calls Try.prog 50 #[a.v n, .int .i64 i] u fun e u' => e = .returned (.tuple #[zeroV, .int .i64 1]) ∧ Below u.heap.size u u' := by
  have H1 := hide (fun (v : World) (hb : Below u.heap.size u v) => rBranch n a v (h.below hb) hsm)
  have hle := (Nd.refused_zero.1 hc).1.lens
  have hgi : (n.keys.length : Int) ≤ 1993 := by omega
  clear hle
  have hcs : i < 0 ∨ (¬ i < 0 ∧ (n.keys.length : Int) ≤ i) := by
    by_cases q1 : i < 0
    · exact .inl q1
    · by_cases q2 : (n.keys.length : Int) ≤ i
      · exact .inr ⟨q1, q2⟩
      · exact absurd hbad (by rintro (q | q); exact q1 q; exact q2 q)
  clear hbad
  obtain ⟨N, hN⟩ : ∃ N, N = u.heap.size := ⟨_, rfl⟩
  have HN := hide hN
  rw [← hN] at H1 ⊢
  clear hN h hsm
  rw [Nv.v_eq] at H1 ⊢
  rw [hc] at H1
  clear hc
  obtain ⟨ca, cc, ka, kc, ga, gc⟩ := a
  unfold zeroV
  generalize n.cells.length = cn at *
  generalize n.keys.length = kn at *
  generalize n.kids.length = gn at *
  generalize n.leaf = lf at *
  rcases hcs with hi0 | ⟨hi0, hge⟩
  · go_enter Try.func50, Try.ntmps50
    go_wp2_with (first
      | ((with_reducible refine wpList_box_node (by rfl) (.tmp 0) (by rfl) (some 2) (by rfl) N (unhide HN) lf ca cn cc ka kn kc ga gn gc (by with_unfolding_all rfl) ?_); intro W0 HX0 HB0 HS0; simp only [Act.put, List.setIfInBounds_toArray, List.set_cons_zero, List.set_cons_succ])
      | ((with_reducible refine wpList_alloc_node (by rfl) (by rfl) (some 4) (by rfl) (N + 1) (unhide HS0).symm ?_); intro W1 HX1 HB1 HS1; simp only [Act.put, List.setIfInBounds_toArray, List.set_cons_zero, List.set_cons_succ]; have HX2 := hide (((unhide HB1).block N (Nat.lt_succ_self N)).trans (unhide HX0)); obtain ⟨y0, y1, y2, y3⟩ := box4 (unhide HX2))
      | fail)
    have HG1 : Hid (Gs u W1 N (.cells #[.bool lf, .slice ca cn cc, .slice ka kn kc, .slice ga gn gc] 26 (0, 0)) (.cells #[.bool false, .slice none 0 0, .slice none 0 0, .slice none 0 0] 26 (0, 0))) := ⟨⟨(unhide HB0).trans ((unhide HB1).mono (Nat.le_succ N)), unhide HX2⟩, unhide HX1⟩
    clear HX0 HB0 HS0 HB1 HS1 HX1 HX2
    refine (unhide H1 _ (unhide HG1).1.1).mono ?_
    rintro e W3 ⟨rfl, hb3⟩
    have HG3 := hide ((unhide HG1).below hb3)
    clear hb3 y0 y1 y2 y3 HG1
    obtain ⟨y0, y1, y2, y3⟩ := box4 (unhide HG3).1.2
    have HX6 : Hid (W3.heap[N + 1]? = some (.cells #[.bool false, .slice none 0 0, .slice none 0 0, .slice none 0 0] 26 (0, 0))) := (unhide HG3).2
    go_wp2_with (first
      | ((with_reducible refine wpList_store_node (by rfl) (.tmp 4) (.tmp 24) (by rfl) (N + 1) false none 0 0 none 0 0 none 0 0 (by with_unfolding_all rfl) (by with_unfolding_all rfl) (unhide HX6) ?_); intro W8 HX11 HE11; simp only [Act.put])
      | fail)
    have HW8 : Hid (Below N u W8) := by rw [unhide HE11]; exact belowRow (unhide HG3).1.1 (Nat.le_succ N) _
    clear HE11
    refine bodyPost_ret (results_cell_tmp rfl _ _ (N + 1) 26 #[.bool false, .slice none 0 0, .slice none 0 0, .slice none 0 0] (0, 0) _ rfl (unhide HX11) nodeUnd rfl nodeInfo) rfl ?_
    exact ⟨rfl, unhide HW8⟩
  · go_enter Try.func50, Try.ntmps50
    go_wp2_with (first
      | ((with_reducible refine wpList_box_node (by rfl) (.tmp 0) (by rfl) (some 2) (by rfl) N (unhide HN) lf ca cn cc ka kn kc ga gn gc (by with_unfolding_all rfl) ?_); intro W0 HX0 HB0 HS0; simp only [Act.put, List.setIfInBounds_toArray, List.set_cons_zero, List.set_cons_succ])
      | ((with_reducible refine wpList_alloc_node (by rfl) (by rfl) (some 4) (by rfl) (N + 1) (unhide HS0).symm ?_); intro W1 HX1 HB1 HS1; simp only [Act.put, List.setIfInBounds_toArray, List.set_cons_zero, List.set_cons_succ]; have HX2 := hide (((unhide HB1).block N (Nat.lt_succ_self N)).trans (unhide HX0)); obtain ⟨y0, y1, y2, y3⟩ := box4 (unhide HX2))
      | fail)
    have HG1 : Hid (Gs u W1 N (.cells #[.bool lf, .slice ca cn cc, .slice ka kn kc, .slice ga gn gc] 26 (0, 0)) (.cells #[.bool false, .slice none 0 0, .slice none 0 0, .slice none 0 0] 26 (0, 0))) := ⟨⟨(unhide HB0).trans ((unhide HB1).mono (Nat.le_succ N)), unhide HX2⟩, unhide HX1⟩
    clear HX0 HB0 HS0 HB1 HS1 HX1 HX2
    refine (unhide H1 _ (unhide HG1).1.1).mono ?_
    rintro e W3 ⟨rfl, hb3⟩
    have HG3 := hide ((unhide HG1).below hb3)
    clear hb3 y0 y1 y2 y3 HG1
    obtain ⟨y0, y1, y2, y3⟩ := box4 (unhide HG3).1.2
    have HX6 : Hid (W3.heap[N + 1]? = some (.cells #[.bool false, .slice none 0 0, .slice none 0 0, .slice none 0 0] 26 (0, 0))) := (unhide HG3).2
    go_wp2_with (first
      | ((with_reducible refine wpList_store_node (by rfl) (.tmp 4) (.tmp 24) (by rfl) (N + 1) false none 0 0 none 0 0 none 0 0 (by with_unfolding_all rfl) (by with_unfolding_all rfl) (unhide HX6) ?_); intro W8 HX11 HE11; simp only [Act.put])
      | fail)
    have HW8 : Hid (Below N u W8) := by rw [unhide HE11]; exact belowRow (unhide HG3).1.1 (Nat.le_succ N) _
    clear HE11
    refine bodyPost_ret (results_cell_tmp rfl _ _ (N + 1) 26 #[.bool false, .slice none 0 0, .slice none 0 0, .slice none 0 0] (0, 0) _ rfl (unhide HX11) nodeUnd rfl nodeInfo) rfl ?_
    exact ⟨rfl, unhide HW8⟩
open Classical in
set_option maxRecDepth 100000 in
set_option maxHeartbeats 4000000 in
theorem nTurnNo (n : Nd) (a : Nv) (i : Int) (key : ByteArray) (u : World) (h : NdAt u n a) (hc : n.refused false ≠ 0) : Calls Try.prog 52 #[a.v n, .int .i64 i, .string key] u fun e u' => e = .returned (.tuple #[zeroV, .int .i64 (n.refused false)]) ∧ Below u.heap.size u u' := by
  have H1 := hide (fun (v : World) (hb : Below u.heap.size u v) => nRefused n a false v (h.below hb))
  obtain ⟨N, hN⟩ : ∃ N, N = u.heap.size := ⟨_, rfl⟩
  have HN := hide hN
  rw [← hN] at H1 ⊢
  clear hN h
  rw [Nv.v_eq] at H1 ⊢
  generalize n.refused false = rf at *
  have hcb : (rf == 0) = false := beq_false_of_ne hc
  obtain ⟨ca, cc, ka, kc, ga, gc⟩ := a
  unfold zeroV
  generalize n.cells.length = cn at *
  generalize n.keys.length = kn at *
  generalize n.kids.length = gn at *
  generalize n.leaf = lf at *
  go_enter Try.func52, Try.ntmps52
  go_wp2_with (first
    | ((with_reducible refine wpList_box_node (by rfl) (.tmp 0) (by rfl) (some 3) (by rfl) N (unhide HN) lf ca cn cc ka kn kc ga gn gc (by with_unfolding_all rfl) ?_); intro W0 HX0 HB0 HS0; simp only [Act.put, List.setIfInBounds_toArray, List.set_cons_zero, List.set_cons_succ])
    | ((with_reducible refine wpList_alloc_node (by rfl) (by rfl) (some 6) (by rfl) (N + 1) (unhide HS0).symm ?_); intro W1 HX1 HB1 HS1; simp only [Act.put, List.setIfInBounds_toArray, List.set_cons_zero, List.set_cons_succ]; have HX2 := hide (((unhide HB1).block N (Nat.lt_succ_self N)).trans (unhide HX0)); obtain ⟨y0, y1, y2, y3⟩ := box4 (unhide HX2))
    | fail)
  have HG1 : Hid (Gs u W1 N (.cells #[.bool lf, .slice ca cn cc, .slice ka kn kc, .slice ga gn gc] 26 (0, 0)) (.cells #[.bool false, .slice none 0 0, .slice none 0 0, .slice none 0 0] 26 (0, 0))) := ⟨⟨(unhide HB0).trans ((unhide HB1).mono (Nat.le_succ N)), unhide HX2⟩, unhide HX1⟩
  clear HX0 HB0 HS0 HB1 HS1 HX1 HX2
  refine (unhide H1 _ (unhide HG1).1.1).mono ?_
  rintro e W3 ⟨rfl, hb3⟩
  have HG3 := hide ((unhide HG1).below hb3)
  clear hb3 y0 y1 y2 y3 HG1
  obtain ⟨y0, y1, y2, y3⟩ := box4 (unhide HG3).1.2
  have HX6 : Hid (W3.heap[N + 1]? = some (.cells #[.bool false, .slice none 0 0, .slice none 0 0, .slice none 0 0] 26 (0, 0))) := (unhide HG3).2
  go_wp2_with (first
    | ((with_reducible refine wpList_store_node (by rfl) (.tmp 6) (.tmp 13) (by rfl) (N + 1) false none 0 0 none 0 0 none 0 0 (by with_unfolding_all rfl) (by with_unfolding_all rfl) (unhide HX6) ?_); intro W8 HX11 HE11; simp only [Act.put])
    | fail)
  have HW8 : Hid (Below N u W8) := by rw [unhide HE11]; exact belowRow (unhide HG3).1.1 (Nat.le_succ N) _
  clear HE11
  refine bodyPost_ret (results_cell_tmp rfl _ _ (N + 1) 26 #[.bool false, .slice none 0 0, .slice none 0 0, .slice none 0 0] (0, 0) _ rfl (unhide HX11) nodeUnd rfl nodeInfo) rfl ?_
  exact ⟨rfl, unhide HW8⟩
open Classical in
set_option maxRecDepth 100000 in
set_option maxHeartbeats 4000000 in
theorem nTurnBd (n : Nd) (a : Nv) (i : Int) (key : ByteArray) (u : World) (h : NdAt u n a) (hc : n.refused false = 0) (hbad : i < 0 ∨ (n.keys.length : Int) ≤ i ∨ ¬ keyOk key) : Calls Try.prog 52 #[a.v n, .int .i64 i, .string key] u fun e u' => e = .returned (.tuple #[zeroV, .int .i64 1]) ∧ Below u.heap.size u u' := by
  have H1 := hide (fun (v : World) (hb : Below u.heap.size u v) => nRefused n a false v (h.below hb))
  have hle := (Nd.refused_zero.1 hc).1.lens
  have hgi : (n.keys.length : Int) ≤ 1993 := by omega
  clear hle
  have H2 := hide (fun v : World => nKeyMay key v)
  obtain ⟨b, hb⟩ : ∃ b, b = decide (keyOk key) := ⟨_, rfl⟩
  rw [← hb] at H2
  have hcs : i < 0 ∨ (¬ i < 0 ∧ (n.keys.length : Int) ≤ i) ∨ (¬ i < 0 ∧ ¬ (n.keys.length : Int) ≤ i ∧ b = false) := by
    by_cases q1 : i < 0
    · exact .inl q1
    · by_cases q2 : (n.keys.length : Int) ≤ i
      · exact .inr (.inl ⟨q1, q2⟩)
      · exact .inr (.inr ⟨q1, q2, by rw [hb]; rcases hbad with q | q | q; exact absurd q q1; exact absurd q q2; exact decide_eq_false q⟩)
  clear hbad hb
  obtain ⟨N, hN⟩ : ∃ N, N = u.heap.size := ⟨_, rfl⟩
  have HN := hide hN
  rw [← hN] at H1 ⊢
  clear hN h
  rw [Nv.v_eq] at H1 ⊢
  rw [hc] at H1
  clear hc
  obtain ⟨ca, cc, ka, kc, ga, gc⟩ := a
  unfold zeroV
  generalize n.cells.length = cn at *
  generalize n.keys.length = kn at *
  generalize n.kids.length = gn at *
  generalize n.leaf = lf at *
  rcases hcs with hi0 | ⟨hi0, hge⟩ | ⟨hi0, hge, rfl⟩
  · go_enter Try.func52, Try.ntmps52
    go_wp2_with (first
      | ((with_reducible refine wpList_box_node (by rfl) (.tmp 0) (by rfl) (some 3) (by rfl) N (unhide HN) lf ca cn cc ka kn kc ga gn gc (by with_unfolding_all rfl) ?_); intro W0 HX0 HB0 HS0; simp only [Act.put, List.setIfInBounds_toArray, List.set_cons_zero, List.set_cons_succ])
      | ((with_reducible refine wpList_alloc_node (by rfl) (by rfl) (some 6) (by rfl) (N + 1) (unhide HS0).symm ?_); intro W1 HX1 HB1 HS1; simp only [Act.put, List.setIfInBounds_toArray, List.set_cons_zero, List.set_cons_succ]; have HX2 := hide (((unhide HB1).block N (Nat.lt_succ_self N)).trans (unhide HX0)); obtain ⟨y0, y1, y2, y3⟩ := box4 (unhide HX2))
      | fail)
    have HG1 : Hid (Gs u W1 N (.cells #[.bool lf, .slice ca cn cc, .slice ka kn kc, .slice ga gn gc] 26 (0, 0)) (.cells #[.bool false, .slice none 0 0, .slice none 0 0, .slice none 0 0] 26 (0, 0))) := ⟨⟨(unhide HB0).trans ((unhide HB1).mono (Nat.le_succ N)), unhide HX2⟩, unhide HX1⟩
    clear HX0 HB0 HS0 HB1 HS1 HX1 HX2
    refine (unhide H1 _ (unhide HG1).1.1).mono ?_
    rintro e W3 ⟨rfl, hb3⟩
    have HG3 := hide ((unhide HG1).below hb3)
    clear hb3 y0 y1 y2 y3 HG1
    obtain ⟨y0, y1, y2, y3⟩ := box4 (unhide HG3).1.2
    have HX6 : Hid (W3.heap[N + 1]? = some (.cells #[.bool false, .slice none 0 0, .slice none 0 0, .slice none 0 0] 26 (0, 0))) := (unhide HG3).2
    go_wp2_with (first
      | ((with_reducible refine wpList_store_node (by rfl) (.tmp 6) (.tmp 29) (by rfl) (N + 1) false none 0 0 none 0 0 none 0 0 (by with_unfolding_all rfl) (by with_unfolding_all rfl) (unhide HX6) ?_); intro W8 HX11 HE11; simp only [Act.put])
      | fail)
    have HW8 : Hid (Below N u W8) := by rw [unhide HE11]; exact belowRow (unhide HG3).1.1 (Nat.le_succ N) _
    clear HE11
    refine bodyPost_ret (results_cell_tmp rfl _ _ (N + 1) 26 #[.bool false, .slice none 0 0, .slice none 0 0, .slice none 0 0] (0, 0) _ rfl (unhide HX11) nodeUnd rfl nodeInfo) rfl ?_
    exact ⟨rfl, unhide HW8⟩
  · go_enter Try.func52, Try.ntmps52
    go_wp2_with (first
      | ((with_reducible refine wpList_box_node (by rfl) (.tmp 0) (by rfl) (some 3) (by rfl) N (unhide HN) lf ca cn cc ka kn kc ga gn gc (by with_unfolding_all rfl) ?_); intro W0 HX0 HB0 HS0; simp only [Act.put, List.setIfInBounds_toArray, List.set_cons_zero, List.set_cons_succ])
      | ((with_reducible refine wpList_alloc_node (by rfl) (by rfl) (some 6) (by rfl) (N + 1) (unhide HS0).symm ?_); intro W1 HX1 HB1 HS1; simp only [Act.put, List.setIfInBounds_toArray, List.set_cons_zero, List.set_cons_succ]; have HX2 := hide (((unhide HB1).block N (Nat.lt_succ_self N)).trans (unhide HX0)); obtain ⟨y0, y1, y2, y3⟩ := box4 (unhide HX2))
      | fail)
    have HG1 : Hid (Gs u W1 N (.cells #[.bool lf, .slice ca cn cc, .slice ka kn kc, .slice ga gn gc] 26 (0, 0)) (.cells #[.bool false, .slice none 0 0, .slice none 0 0, .slice none 0 0] 26 (0, 0))) := ⟨⟨(unhide HB0).trans ((unhide HB1).mono (Nat.le_succ N)), unhide HX2⟩, unhide HX1⟩
    clear HX0 HB0 HS0 HB1 HS1 HX1 HX2
    refine (unhide H1 _ (unhide HG1).1.1).mono ?_
    rintro e W3 ⟨rfl, hb3⟩
    have HG3 := hide ((unhide HG1).below hb3)
    clear hb3 y0 y1 y2 y3 HG1
    obtain ⟨y0, y1, y2, y3⟩ := box4 (unhide HG3).1.2
    have HX6 : Hid (W3.heap[N + 1]? = some (.cells #[.bool false, .slice none 0 0, .slice none 0 0, .slice none 0 0] 26 (0, 0))) := (unhide HG3).2
    go_wp2_with (first
      | ((with_reducible refine wpList_store_node (by rfl) (.tmp 6) (.tmp 29) (by rfl) (N + 1) false none 0 0 none 0 0 none 0 0 (by with_unfolding_all rfl) (by with_unfolding_all rfl) (unhide HX6) ?_); intro W8 HX11 HE11; simp only [Act.put])
      | fail)
    have HW8 : Hid (Below N u W8) := by rw [unhide HE11]; exact belowRow (unhide HG3).1.1 (Nat.le_succ N) _
    clear HE11
    refine bodyPost_ret (results_cell_tmp rfl _ _ (N + 1) 26 #[.bool false, .slice none 0 0, .slice none 0 0, .slice none 0 0] (0, 0) _ rfl (unhide HX11) nodeUnd rfl nodeInfo) rfl ?_
    exact ⟨rfl, unhide HW8⟩
  · go_enter Try.func52, Try.ntmps52
    go_wp2_with (first
      | ((with_reducible refine wpList_box_node (by rfl) (.tmp 0) (by rfl) (some 3) (by rfl) N (unhide HN) lf ca cn cc ka kn kc ga gn gc (by with_unfolding_all rfl) ?_); intro W0 HX0 HB0 HS0; simp only [Act.put, List.setIfInBounds_toArray, List.set_cons_zero, List.set_cons_succ])
      | ((with_reducible refine wpList_alloc_node (by rfl) (by rfl) (some 6) (by rfl) (N + 1) (unhide HS0).symm ?_); intro W1 HX1 HB1 HS1; simp only [Act.put, List.setIfInBounds_toArray, List.set_cons_zero, List.set_cons_succ]; have HX2 := hide (((unhide HB1).block N (Nat.lt_succ_self N)).trans (unhide HX0)); obtain ⟨y0, y1, y2, y3⟩ := box4 (unhide HX2))
      | fail)
    have HG1 : Hid (Gs u W1 N (.cells #[.bool lf, .slice ca cn cc, .slice ka kn kc, .slice ga gn gc] 26 (0, 0)) (.cells #[.bool false, .slice none 0 0, .slice none 0 0, .slice none 0 0] 26 (0, 0))) := ⟨⟨(unhide HB0).trans ((unhide HB1).mono (Nat.le_succ N)), unhide HX2⟩, unhide HX1⟩
    clear HX0 HB0 HS0 HB1 HS1 HX1 HX2
    refine (unhide H1 _ (unhide HG1).1.1).mono ?_
    rintro e W3 ⟨rfl, hb3⟩
    have HG3 := hide ((unhide HG1).below hb3)
    clear hb3 y0 y1 y2 y3 HG1
    obtain ⟨y0, y1, y2, y3⟩ := box4 (unhide HG3).1.2
    have HX6 : Hid (W3.heap[N + 1]? = some (.cells #[.bool false, .slice none 0 0, .slice none 0 0, .slice none 0 0] 26 (0, 0))) := (unhide HG3).2
    go_wp2_with fail
    refine (unhide H2 _).mono ?_
    rintro e W4 ⟨rfl, hw4⟩
    obtain rfl := hw4.symm
    clear hw4
    go_wp2_with (first
      | ((with_reducible refine wpList_store_node (by rfl) (.tmp 6) (.tmp 29) (by rfl) (N + 1) false none 0 0 none 0 0 none 0 0 (by with_unfolding_all rfl) (by with_unfolding_all rfl) (unhide HX6) ?_); intro W8 HX11 HE11; simp only [Act.put])
      | fail)
    have HW8 : Hid (Below N u W8) := by rw [unhide HE11]; exact belowRow (unhide HG3).1.1 (Nat.le_succ N) _
    clear HE11
    refine bodyPost_ret (results_cell_tmp rfl _ _ (N + 1) 26 #[.bool false, .slice none 0 0, .slice none 0 0, .slice none 0 0] (0, 0) _ rfl (unhide HX11) nodeUnd rfl nodeInfo) rfl ?_
    exact ⟨rfl, unhide HW8⟩
open Classical in
set_option maxRecDepth 100000 in
set_option maxHeartbeats 4000000 in
theorem rTurnNo (n : Nd) (a : Nv) (i : Int) (key : ByteArray) (u : World) (h : NdAt u n a) (hsm : n.Kind → n.cells.length + n.keys.length ≤ 8796093022208) (hc : n.refused false ≠ 0) : Calls Try.prog 54 #[a.v n, .int .i64 i, .string key] u fun e u' => e = .returned (.tuple #[zeroV, .int .i64 (n.refused false)]) ∧ Below u.heap.size u u' := by
  have H1 := hide (fun (v : World) (hb : Below u.heap.size u v) => rBranch n a v (h.below hb) hsm)
  obtain ⟨N, hN⟩ : ∃ N, N = u.heap.size := ⟨_, rfl⟩
  have HN := hide hN
  rw [← hN] at H1 ⊢
  clear hN h hsm
  rw [Nv.v_eq] at H1 ⊢
  generalize n.refused false = rf at *
  have hcb : (rf == 0) = false := beq_false_of_ne hc
  obtain ⟨ca, cc, ka, kc, ga, gc⟩ := a
  unfold zeroV
  generalize n.cells.length = cn at *
  generalize n.keys.length = kn at *
  generalize n.kids.length = gn at *
  generalize n.leaf = lf at *
  go_enter Try.func54, Try.ntmps54
  go_wp2_with (first
    | ((with_reducible refine wpList_box_node (by rfl) (.tmp 0) (by rfl) (some 3) (by rfl) N (unhide HN) lf ca cn cc ka kn kc ga gn gc (by with_unfolding_all rfl) ?_); intro W0 HX0 HB0 HS0; simp only [Act.put, List.setIfInBounds_toArray, List.set_cons_zero, List.set_cons_succ])
    | ((with_reducible refine wpList_alloc_node (by rfl) (by rfl) (some 6) (by rfl) (N + 1) (unhide HS0).symm ?_); intro W1 HX1 HB1 HS1; simp only [Act.put, List.setIfInBounds_toArray, List.set_cons_zero, List.set_cons_succ]; have HX2 := hide (((unhide HB1).block N (Nat.lt_succ_self N)).trans (unhide HX0)); obtain ⟨y0, y1, y2, y3⟩ := box4 (unhide HX2))
    | fail)
  have HG1 : Hid (Gs u W1 N (.cells #[.bool lf, .slice ca cn cc, .slice ka kn kc, .slice ga gn gc] 26 (0, 0)) (.cells #[.bool false, .slice none 0 0, .slice none 0 0, .slice none 0 0] 26 (0, 0))) := ⟨⟨(unhide HB0).trans ((unhide HB1).mono (Nat.le_succ N)), unhide HX2⟩, unhide HX1⟩
  clear HX0 HB0 HS0 HB1 HS1 HX1 HX2
  refine (unhide H1 _ (unhide HG1).1.1).mono ?_
  rintro e W3 ⟨rfl, hb3⟩
  have HG3 := hide ((unhide HG1).below hb3)
  clear hb3 y0 y1 y2 y3 HG1
  obtain ⟨y0, y1, y2, y3⟩ := box4 (unhide HG3).1.2
  have HX6 : Hid (W3.heap[N + 1]? = some (.cells #[.bool false, .slice none 0 0, .slice none 0 0, .slice none 0 0] 26 (0, 0))) := (unhide HG3).2
  go_wp2_with (first
    | ((with_reducible refine wpList_store_node (by rfl) (.tmp 6) (.tmp 15) (by rfl) (N + 1) false none 0 0 none 0 0 none 0 0 (by with_unfolding_all rfl) (by with_unfolding_all rfl) (unhide HX6) ?_); intro W8 HX11 HE11; simp only [Act.put])
    | fail)
  have HW8 : Hid (Below N u W8) := by rw [unhide HE11]; exact belowRow (unhide HG3).1.1 (Nat.le_succ N) _
  clear HE11
  refine bodyPost_ret (results_cell_tmp rfl _ _ (N + 1) 26 #[.bool false, .slice none 0 0, .slice none 0 0, .slice none 0 0] (0, 0) _ rfl (unhide HX11) nodeUnd rfl nodeInfo) rfl ?_
  exact ⟨rfl, unhide HW8⟩
open Classical in
set_option maxRecDepth 100000 in
set_option maxHeartbeats 4000000 in
theorem rTurnBd (n : Nd) (a : Nv) (i : Int) (key : ByteArray) (u : World) (h : NdAt u n a) (hsm : n.Kind → n.cells.length + n.keys.length ≤ 8796093022208) (hc : n.refused false = 0) (hbad : i < 0 ∨ (n.keys.length : Int) ≤ i ∨ ¬ keyOk key) : Calls Try.prog 54 #[a.v n, .int .i64 i, .string key] u fun e u' => e = .returned (.tuple #[zeroV, .int .i64 1]) ∧ Below u.heap.size u u' := by
  have H1 := hide (fun (v : World) (hb : Below u.heap.size u v) => rBranch n a v (h.below hb) hsm)
  have hle := (Nd.refused_zero.1 hc).1.lens
  have hgi : (n.keys.length : Int) ≤ 1993 := by omega
  clear hle
  have H2 := hide (fun v : World => rKeyMay key v)
  obtain ⟨b, hb⟩ : ∃ b, b = decide (keyOk key) := ⟨_, rfl⟩
  rw [← hb] at H2
  have hcs : i < 0 ∨ (¬ i < 0 ∧ (n.keys.length : Int) ≤ i) ∨ (¬ i < 0 ∧ ¬ (n.keys.length : Int) ≤ i ∧ b = false) := by
    by_cases q1 : i < 0
    · exact .inl q1
    · by_cases q2 : (n.keys.length : Int) ≤ i
      · exact .inr (.inl ⟨q1, q2⟩)
      · exact .inr (.inr ⟨q1, q2, by rw [hb]; rcases hbad with q | q | q; exact absurd q q1; exact absurd q q2; exact decide_eq_false q⟩)
  clear hbad hb
  obtain ⟨N, hN⟩ : ∃ N, N = u.heap.size := ⟨_, rfl⟩
  have HN := hide hN
  rw [← hN] at H1 ⊢
  clear hN h hsm
  rw [Nv.v_eq] at H1 ⊢
  rw [hc] at H1
  clear hc
  obtain ⟨ca, cc, ka, kc, ga, gc⟩ := a
  unfold zeroV
  generalize n.cells.length = cn at *
  generalize n.keys.length = kn at *
  generalize n.kids.length = gn at *
  generalize n.leaf = lf at *
  rcases hcs with hi0 | ⟨hi0, hge⟩ | ⟨hi0, hge, rfl⟩
  · go_enter Try.func54, Try.ntmps54
    go_wp2_with (first
      | ((with_reducible refine wpList_box_node (by rfl) (.tmp 0) (by rfl) (some 3) (by rfl) N (unhide HN) lf ca cn cc ka kn kc ga gn gc (by with_unfolding_all rfl) ?_); intro W0 HX0 HB0 HS0; simp only [Act.put, List.setIfInBounds_toArray, List.set_cons_zero, List.set_cons_succ])
      | ((with_reducible refine wpList_alloc_node (by rfl) (by rfl) (some 6) (by rfl) (N + 1) (unhide HS0).symm ?_); intro W1 HX1 HB1 HS1; simp only [Act.put, List.setIfInBounds_toArray, List.set_cons_zero, List.set_cons_succ]; have HX2 := hide (((unhide HB1).block N (Nat.lt_succ_self N)).trans (unhide HX0)); obtain ⟨y0, y1, y2, y3⟩ := box4 (unhide HX2))
      | fail)
    have HG1 : Hid (Gs u W1 N (.cells #[.bool lf, .slice ca cn cc, .slice ka kn kc, .slice ga gn gc] 26 (0, 0)) (.cells #[.bool false, .slice none 0 0, .slice none 0 0, .slice none 0 0] 26 (0, 0))) := ⟨⟨(unhide HB0).trans ((unhide HB1).mono (Nat.le_succ N)), unhide HX2⟩, unhide HX1⟩
    clear HX0 HB0 HS0 HB1 HS1 HX1 HX2
    refine (unhide H1 _ (unhide HG1).1.1).mono ?_
    rintro e W3 ⟨rfl, hb3⟩
    have HG3 := hide ((unhide HG1).below hb3)
    clear hb3 y0 y1 y2 y3 HG1
    obtain ⟨y0, y1, y2, y3⟩ := box4 (unhide HG3).1.2
    have HX6 : Hid (W3.heap[N + 1]? = some (.cells #[.bool false, .slice none 0 0, .slice none 0 0, .slice none 0 0] 26 (0, 0))) := (unhide HG3).2
    go_wp2_with (first
      | ((with_reducible refine wpList_store_node (by rfl) (.tmp 6) (.tmp 31) (by rfl) (N + 1) false none 0 0 none 0 0 none 0 0 (by with_unfolding_all rfl) (by with_unfolding_all rfl) (unhide HX6) ?_); intro W8 HX11 HE11; simp only [Act.put])
      | fail)
    have HW8 : Hid (Below N u W8) := by rw [unhide HE11]; exact belowRow (unhide HG3).1.1 (Nat.le_succ N) _
    clear HE11
    refine bodyPost_ret (results_cell_tmp rfl _ _ (N + 1) 26 #[.bool false, .slice none 0 0, .slice none 0 0, .slice none 0 0] (0, 0) _ rfl (unhide HX11) nodeUnd rfl nodeInfo) rfl ?_
    exact ⟨rfl, unhide HW8⟩
  · go_enter Try.func54, Try.ntmps54
    go_wp2_with (first
      | ((with_reducible refine wpList_box_node (by rfl) (.tmp 0) (by rfl) (some 3) (by rfl) N (unhide HN) lf ca cn cc ka kn kc ga gn gc (by with_unfolding_all rfl) ?_); intro W0 HX0 HB0 HS0; simp only [Act.put, List.setIfInBounds_toArray, List.set_cons_zero, List.set_cons_succ])
      | ((with_reducible refine wpList_alloc_node (by rfl) (by rfl) (some 6) (by rfl) (N + 1) (unhide HS0).symm ?_); intro W1 HX1 HB1 HS1; simp only [Act.put, List.setIfInBounds_toArray, List.set_cons_zero, List.set_cons_succ]; have HX2 := hide (((unhide HB1).block N (Nat.lt_succ_self N)).trans (unhide HX0)); obtain ⟨y0, y1, y2, y3⟩ := box4 (unhide HX2))
      | fail)
    have HG1 : Hid (Gs u W1 N (.cells #[.bool lf, .slice ca cn cc, .slice ka kn kc, .slice ga gn gc] 26 (0, 0)) (.cells #[.bool false, .slice none 0 0, .slice none 0 0, .slice none 0 0] 26 (0, 0))) := ⟨⟨(unhide HB0).trans ((unhide HB1).mono (Nat.le_succ N)), unhide HX2⟩, unhide HX1⟩
    clear HX0 HB0 HS0 HB1 HS1 HX1 HX2
    refine (unhide H1 _ (unhide HG1).1.1).mono ?_
    rintro e W3 ⟨rfl, hb3⟩
    have HG3 := hide ((unhide HG1).below hb3)
    clear hb3 y0 y1 y2 y3 HG1
    obtain ⟨y0, y1, y2, y3⟩ := box4 (unhide HG3).1.2
    have HX6 : Hid (W3.heap[N + 1]? = some (.cells #[.bool false, .slice none 0 0, .slice none 0 0, .slice none 0 0] 26 (0, 0))) := (unhide HG3).2
    go_wp2_with (first
      | ((with_reducible refine wpList_store_node (by rfl) (.tmp 6) (.tmp 31) (by rfl) (N + 1) false none 0 0 none 0 0 none 0 0 (by with_unfolding_all rfl) (by with_unfolding_all rfl) (unhide HX6) ?_); intro W8 HX11 HE11; simp only [Act.put])
      | fail)
    have HW8 : Hid (Below N u W8) := by rw [unhide HE11]; exact belowRow (unhide HG3).1.1 (Nat.le_succ N) _
    clear HE11
    refine bodyPost_ret (results_cell_tmp rfl _ _ (N + 1) 26 #[.bool false, .slice none 0 0, .slice none 0 0, .slice none 0 0] (0, 0) _ rfl (unhide HX11) nodeUnd rfl nodeInfo) rfl ?_
    exact ⟨rfl, unhide HW8⟩
  · go_enter Try.func54, Try.ntmps54
    go_wp2_with (first
      | ((with_reducible refine wpList_box_node (by rfl) (.tmp 0) (by rfl) (some 3) (by rfl) N (unhide HN) lf ca cn cc ka kn kc ga gn gc (by with_unfolding_all rfl) ?_); intro W0 HX0 HB0 HS0; simp only [Act.put, List.setIfInBounds_toArray, List.set_cons_zero, List.set_cons_succ])
      | ((with_reducible refine wpList_alloc_node (by rfl) (by rfl) (some 6) (by rfl) (N + 1) (unhide HS0).symm ?_); intro W1 HX1 HB1 HS1; simp only [Act.put, List.setIfInBounds_toArray, List.set_cons_zero, List.set_cons_succ]; have HX2 := hide (((unhide HB1).block N (Nat.lt_succ_self N)).trans (unhide HX0)); obtain ⟨y0, y1, y2, y3⟩ := box4 (unhide HX2))
      | fail)
    have HG1 : Hid (Gs u W1 N (.cells #[.bool lf, .slice ca cn cc, .slice ka kn kc, .slice ga gn gc] 26 (0, 0)) (.cells #[.bool false, .slice none 0 0, .slice none 0 0, .slice none 0 0] 26 (0, 0))) := ⟨⟨(unhide HB0).trans ((unhide HB1).mono (Nat.le_succ N)), unhide HX2⟩, unhide HX1⟩
    clear HX0 HB0 HS0 HB1 HS1 HX1 HX2
    refine (unhide H1 _ (unhide HG1).1.1).mono ?_
    rintro e W3 ⟨rfl, hb3⟩
    have HG3 := hide ((unhide HG1).below hb3)
    clear hb3 y0 y1 y2 y3 HG1
    obtain ⟨y0, y1, y2, y3⟩ := box4 (unhide HG3).1.2
    have HX6 : Hid (W3.heap[N + 1]? = some (.cells #[.bool false, .slice none 0 0, .slice none 0 0, .slice none 0 0] 26 (0, 0))) := (unhide HG3).2
    go_wp2_with fail
    refine (unhide H2 _).mono ?_
    rintro e W4 ⟨rfl, hw4⟩
    obtain rfl := hw4.symm
    clear hw4
    go_wp2_with (first
      | ((with_reducible refine wpList_store_node (by rfl) (.tmp 6) (.tmp 31) (by rfl) (N + 1) false none 0 0 none 0 0 none 0 0 (by with_unfolding_all rfl) (by with_unfolding_all rfl) (unhide HX6) ?_); intro W8 HX11 HE11; simp only [Act.put])
      | fail)
    have HW8 : Hid (Below N u W8) := by rw [unhide HE11]; exact belowRow (unhide HG3).1.1 (Nat.le_succ N) _
    clear HE11
    refine bodyPost_ret (results_cell_tmp rfl _ _ (N + 1) 26 #[.bool false, .slice none 0 0, .slice none 0 0, .slice none 0 0] (0, 0) _ rfl (unhide HX11) nodeUnd rfl nodeInfo) rfl ?_
    exact ⟨rfl, unhide HW8⟩
end
end Go.Proofs.Ytppmpomfihalfaa
