/- Nodes: Find, Kid. -/
import Derived.Test.YtppmpomfihalfaaNl
namespace Go.Proofs.Ytppmpomfihalfaa
open Go.RowKit

theorem Nd.refused_zero {n : Nd} {lf : Bool} : n.refused lf = 0 ↔ n.Ok ∧ n.leaf = lf := by
  unfold Nd.refused
  constructor
  · intro h
    split at h
    · rename_i h1; exact absurd h h1
    · rename_i h1
      split at h
      · cases h
      · rename_i h2
        exact ⟨Nd.check_zero.1 (Classical.not_not.1 h1), Classical.not_not.1 h2⟩
  · rintro ⟨h1, h2⟩
    rw [if_neg (fun h => h (Nd.check_zero.2 h1)), if_neg (fun h => h h2)]
theorem gtr_lt (a b : ByteArray) : (!(Op.bytesLess a.toList b.toList || a.toList == b.toList)) = lt b a := by
  cases h1 : lt b a
  · cases h2 : lt a b
    · have := lt_total h2 h1
      subst this
      simp
    · rw [show Op.bytesLess a.toList b.toList = true from h2]; rfl
  · rw [show Op.bytesLess a.toList b.toList = false from lt_asymm h1]
    have : (a.toList == b.toList) = false := by
      rw [Bool.eq_false_iff]
      intro h
      exact lt_ne h1 (ba_list (by simpa using h)).symm
    rw [this]; rfl
open Classical in
/-- what Find answers of a leaf -/
noncomputable def Nd.found (n : Nd) (key : ByteArray) : Bool := decide (∃ h : plc n.cells key < n.cells.length, n.cells[plc n.cells key].key = key)
set_option maxRecDepth 100000 in
set_option maxHeartbeats 2000000 in
theorem nFind (n : Nd) (a : Nv) (key : ByteArray) (u : World) (h : NdAt u n a) : Calls Try.prog 30 #[a.v n, .string key] u fun e u' => (n.refused true = 0 → e = .returned (.tuple #[.int .i64 (plc n.cells key : Int), .bool (n.found key)])) ∧ (n.refused true ≠ 0 → e = .returned (.tuple #[.int .i64 0, .bool false])) ∧ Below u.heap.size u u' := by
  have H1 := hide (fun (v : World) (hb : Below u.heap.size u v) => nRefused n a true v (h.below hb))
  have H2 : Hid (n.refused true = 0 → ∀ (v : World), Below u.heap.size u v → Calls Try.prog 83 #[.slice a.ca n.cells.length a.cc, .string key] v fun e u' => e = .returned (.tuple #[.int .i64 (plc n.cells key : Int), .bool (n.found key)]) ∧ Below v.heap.size v u') := fun hc v hb => nPlace n.cells key a.ca a.cc v (h.below hb).cells h.len.1 (Nd.refused_zero.1 hc).1.up.1
  clear h
  obtain ⟨N, hN⟩ : ∃ N, N = u.heap.size := ⟨_, rfl⟩
  have HN := hide hN
  rw [← hN] at H1 H2 ⊢
  clear hN
  rw [Nv.v_eq] at H1 ⊢
  obtain ⟨ca, cc, ka, kc, ga, gc⟩ := a
  generalize n.refused true = c at *
  generalize n.found key = r at *
  generalize plc n.cells key = t at *
  generalize n.cells.length = cn at *
  generalize n.keys.length = kn at *
  generalize n.kids.length = gn at *
  generalize n.leaf = l0 at *
  by_cases h1 : c = 0
  · have H3 := hide (unhide H2 h1)
    subst h1
    clear H2
    go_enter Try.func30, Try.ntmps30
    go_wp2_with (first
      | (with_reducible refine wpList_box_node (by rfl) (.tmp 0) (by rfl) (some 2) (by rfl) N (unhide HN) _ ca cn cc ka kn kc ga gn gc (by with_unfolding_all rfl) ?_; intro W1 HX1 HW1 HS1; simp only [Act.put, List.setIfInBounds_toArray, List.set_cons_zero, List.set_cons_succ]; obtain ⟨y0, y1, y2, y3⟩ := box4 (unhide HX1))
      | fail)
    refine (unhide H1 _ (unhide HW1)).mono ?_
    rintro e W2 ⟨rfl, hb2⟩
    have HW2 := hide ((unhide HW1).trans (hb2.mono (by rw [unhide HS1]; omega)))
    have HX2 := hide (box_below (unhide HX1) hb2)
    have HNW : Hid (N ≤ W2.heap.size) := Nat.le_trans (by rw [unhide HS1]; omega) hb2.size
    clear hb2 y0 y1 y2 y3
    obtain ⟨y0, y1, y2, y3⟩ := box4 (unhide HX2)
    go_wp2_with fail
    refine (unhide H3 _ (unhide HW2)).mono ?_
    rintro e W3 ⟨rfl, hb3⟩
    have HW3 := hide ((unhide HW2).trans (hb3.mono (unhide HNW)))
    clear hb3 y0 y1 y2 y3
    go_wp2
    go_ret2
    exact ⟨fun _ => rfl, fun h => absurd rfl h, unhide HW3⟩
  · clear H2
    go_enter Try.func30, Try.ntmps30
    go_wp2_with (first
      | (with_reducible refine wpList_box_node (by rfl) (.tmp 0) (by rfl) (some 2) (by rfl) N (unhide HN) _ ca cn cc ka kn kc ga gn gc (by with_unfolding_all rfl) ?_; intro W1 HX1 HW1 HS1; simp only [Act.put, List.setIfInBounds_toArray, List.set_cons_zero, List.set_cons_succ]; obtain ⟨y0, y1, y2, y3⟩ := box4 (unhide HX1))
      | fail)
    refine (unhide H1 _ (unhide HW1)).mono ?_
    rintro e W2 ⟨rfl, hb2⟩
    have HW2 := hide ((unhide HW1).trans (hb2.mono (by rw [unhide HS1]; omega)))
    clear hb2 y0 y1 y2 y3
    go_wp2
    go_ret2
    exact ⟨fun h => absurd h h1, fun _ => rfl, unhide HW2⟩
/-- how many of the first keys are not above -/
def kplc (ks : List ByteArray) (key : ByteArray) : Nat := (ks.takeWhile (fun k => !lt key k)).length
theorem kplc_le (ks : List ByteArray) (key : ByteArray) : kplc ks key ≤ ks.length := takeWhile_len _ _
theorem kplc_below {ks : List ByteArray} {key : ByteArray} {i : Nat} (h : i < kplc ks key) (h2 : i < ks.length) : lt key ks[i] = false := by
  have := takeWhile_lt (fun k => !lt key k) ks i h h2
  simpa using this
theorem kplc_above {ks : List ByteArray} {key : ByteArray} (hu : rises ks) {i : Nat} (h : kplc ks key ≤ i) (h2 : i < ks.length) : lt key ks[i] = true := by
  have h3 := takeWhile_at (fun k => !lt key k) ks (Nat.lt_of_le_of_lt h h2)
  replace h3 : lt key (ks[kplc ks key]'(by omega)) = true := by
    simp only [Bool.not_eq_false'] at h3
    exact h3
  rcases Nat.lt_or_ge (kplc ks key) i with h4 | h4
  · exact lt_trans h3 (rises_lt' hu h4 h2)
  · obtain rfl : i = kplc ks key := by omega
    exact h3
theorem ent_kd : ∀ args (w : World), (callFunc 85 args).run Try.prog w = .ok (.enter 85 args) w := ent_lit _ (by kernel_rfl)
set_option maxRecDepth 100000 in
theorem nKid1 (ks : List ByteArray) (key : ByteArray) (ka : Option Addr) (kn kc : Nat) (hkn : kn = ks.length) (i : Nat) (hi : i < ks.length) (X Y : Nat) (W : World) (hX : W.cell? ⟨X, 2, none⟩ = some (.slice ka kn kc)) (hY : W.cell? ⟨Y, 0, none⟩ = some (.string key)) (hl : Lies W ka (flatK ks)) :
    Calls Try.prog 85 (#[.int .i64 (i : Int)] ++ #[.pointer (some ⟨X, 0, none⟩), .pointer (some ⟨Y, 0, none⟩)]) W fun e w' => e = .returned (.bool (lt key ks[i])) ∧ ∃ q, w' = W.drewN q := by
  obtain ⟨g, o, hao, hc⟩ := hl.ky hi
  subst hao
  have hix := ixStrs g o kn kc i (by omega)
  rw [← gtr_lt]
  clear hl
  generalize ks[i] = q at *
  generalize o + i = j at *
  clear hi hkn
  obtain ⟨b, hb⟩ : ∃ b, Op.bytesLess q.toList key.toList = b := ⟨_, rfl⟩
  obtain ⟨b2, hb2⟩ : ∃ b2, (q.toList == key.toList) = b2 := ⟨_, rfl⟩
  rw [hb, hb2]
  show Calls Try.prog 85 #[.int .i64 (i : Int), .pointer (some ⟨X, 0, none⟩), .pointer (some ⟨Y, 0, none⟩)] W _
  cases b <;> cases b2
  all_goals
    go_enter Try.func85, Try.ntmps85
    go_wp2_with fail
    go_quiet (fail)
    go_wp2
    go_ret
    exact ⟨rfl, _, rfl⟩
set_option maxRecDepth 100000 in
set_option maxHeartbeats 2000000 in
theorem nKid (n : Nd) (a : Nv) (key : ByteArray) (u : World) (h : NdAt u n a) : Calls Try.prog 31 #[a.v n, .string key] u fun e u' => (n.refused false = 0 → e = .returned (.int .i64 (kplc n.keys key : Int))) ∧ (n.refused false ≠ 0 → e = .returned (.int .i64 (-1))) ∧ Below u.heap.size u u' := by
  have H1 := hide (fun (v : World) (hb : Below u.heap.size u v) => nRefused n a false v (h.below hb))
  have H2 : Hid (n.refused false = 0 → ∀ (W : World) (X Y : Nat), Below u.heap.size u W → W.cell? ⟨X, 2, none⟩ = some (.slice a.ka n.keys.length a.kc) → W.cell? ⟨Y, 0, none⟩ = some (.string key) → Calls Try.prog 84 #[.int .i64 (n.keys.length : Int), .func (.func 85) #[] #[.pointer (some ⟨X, 0, none⟩), .pointer (some ⟨Y, 0, none⟩)]] W fun e w' => e = .returned (.int .i64 (kplc n.keys key : Int)) ∧ ∃ q, w' = W.drewN q) := fun hc W X Y hb hX hY => by
    have hu := (Nd.refused_zero.1 hc).1.up.2
    have hl := (h.below hb).keys
    refine nSearch _ _ n.keys.length (fun i => lt key (n.keys.getD i ⟨#[]⟩)) W ent_kd h.len.2.1 (fun m i hi => ?_) _ (kplc_le _ _) (fun i hi => ?_) (fun i h1 h2 => ?_)
    · have h1 := nKid1 n.keys key a.ka _ a.kc rfl i hi X Y (W.drewN m) (by simpa using hX) (by simpa using hY) (hl.below (belowDrewN (Below.refl _ _) m))
      have e : n.keys.getD i ⟨#[]⟩ = n.keys[i] := by rw [List.getD_eq_getElem?_getD, List.getElem?_eq_getElem hi]; rfl
      rw [e]
      refine h1.mono ?_
      rintro e w' ⟨he, q, rfl⟩
      exact ⟨he, m + q, by rw [World.drewN_drewN]⟩
    · have hil : i < n.keys.length := by have := kplc_le n.keys key; omega
      have e : n.keys.getD i ⟨#[]⟩ = n.keys[i] := by rw [List.getD_eq_getElem?_getD, List.getElem?_eq_getElem hil]; rfl
      rw [e]
      exact kplc_below hi hil
    · have e : n.keys.getD i ⟨#[]⟩ = n.keys[i] := by rw [List.getD_eq_getElem?_getD, List.getElem?_eq_getElem h2]; rfl
      rw [e]
      exact kplc_above hu h1 h2
  clear h
  obtain ⟨N, hN⟩ : ∃ N, N = u.heap.size := ⟨_, rfl⟩
  have HN := hide hN
  rw [← hN] at H1 H2 ⊢
  clear hN
  rw [Nv.v_eq] at H1 ⊢
  obtain ⟨ca, cc, ka, kc, ga, gc⟩ := a
  generalize n.refused false = c at *
  generalize kplc n.keys key = t at *
  generalize n.cells.length = cn at *
  generalize n.keys.length = kn at *
  generalize n.kids.length = gn at *
  generalize n.leaf = l0 at *
  by_cases h1 : c = 0
  · have H3 := hide (unhide H2 h1)
    subst h1
    clear H2
    go_enter Try.func31, Try.ntmps31
    go_wp2_with (first
      | (with_reducible refine wpList_box_node (by rfl) (.tmp 0) (by rfl) (some 2) (by rfl) N (unhide HN) _ ca cn cc ka kn kc ga gn gc (by with_unfolding_all rfl) ?_; intro W1 HX1 HW1 HS1; simp only [Act.put, List.setIfInBounds_toArray, List.set_cons_zero, List.set_cons_succ])
      | (with_reducible refine wpList_box_one (by rfl) 9 (.tmp 1) (by rfl) (some 3) (by rfl) (N + 1) (unhide HS1).symm (.string key) (by with_unfolding_all rfl) (by with_unfolding_all rfl) ?_; intro W2 HX2 HW2 HS2; simp only [Act.put, List.setIfInBounds_toArray, List.set_cons_zero, List.set_cons_succ]; have HX3 := hide (((unhide HW2).block N (Nat.lt_succ_self N)).trans (unhide HX1)); obtain ⟨y0, y1, y2, y3⟩ := box4 (unhide HX3))
      | fail)
    have HB2 : Hid (Below N u W2) := (unhide HW1).trans ((unhide HW2).mono (Nat.le_succ N))
    refine (unhide H1 _ (unhide HB2)).mono ?_
    rintro e W4 ⟨rfl, hb4⟩
    have HB4 : Hid (Below N u W4) := (unhide HB2).trans (hb4.mono (by rw [unhide HS2]; omega))
    have HX5 := hide (box_below (unhide HX3) hb4)
    have HX6 := hide (box_below (unhide HX2) hb4)
    clear hb4 y0 y1 y2 y3 HX1 HX2 HX3 HW1 HW2 HS1 HS2 HB2
    obtain ⟨y0, y1, y2, y3⟩ := box4 (unhide HX5)
    have z0 := box1 (unhide HX6)
    go_wp2_with fail
    refine (unhide H3 W4 N (N + 1) (unhide HB4) y2 z0).mono ?_
    rintro e W5 ⟨rfl, q5, rfl⟩
    go_wp2
    go_ret
    exact ⟨fun _ => rfl, fun h => absurd rfl h, belowDrewN (unhide HB4) _⟩
  · clear H2
    go_enter Try.func31, Try.ntmps31
    go_wp2_with (first
      | (with_reducible refine wpList_box_node (by rfl) (.tmp 0) (by rfl) (some 2) (by rfl) N (unhide HN) _ ca cn cc ka kn kc ga gn gc (by with_unfolding_all rfl) ?_; intro W1 HX1 HW1 HS1; simp only [Act.put, List.setIfInBounds_toArray, List.set_cons_zero, List.set_cons_succ])
      | (with_reducible refine wpList_box_one (by rfl) 9 (.tmp 1) (by rfl) (some 3) (by rfl) (N + 1) (unhide HS1).symm (.string key) (by with_unfolding_all rfl) (by with_unfolding_all rfl) ?_; intro W2 HX2 HW2 HS2; simp only [Act.put, List.setIfInBounds_toArray, List.set_cons_zero, List.set_cons_succ]; have HX3 := hide (((unhide HW2).block N (Nat.lt_succ_self N)).trans (unhide HX1)); obtain ⟨y0, y1, y2, y3⟩ := box4 (unhide HX3))
      | fail)
    have HB2 : Hid (Below N u W2) := (unhide HW1).trans ((unhide HW2).mono (Nat.le_succ N))
    refine (unhide H1 _ (unhide HB2)).mono ?_
    rintro e W4 ⟨rfl, hb4⟩
    have HB4 : Hid (Below N u W4) := (unhide HB2).trans (hb4.mono (by rw [unhide HS2]; omega))
    clear hb4 y0 y1 y2 y3
    go_wp2
    go_ret
    exact ⟨fun h => absurd h h1, fun _ => rfl, unhide HB4⟩
end Go.Proofs.Ytppmpomfihalfaa
