/- Nodes: Encode. -/
import Derived.Test.YtppmpomfihalfaaNi
namespace Go.Proofs.Ytppmpomfihalfaa
open Go.RowKit

theorem tsz_pos (s : ByteArray) : 1 ≤ tsz s := by unfold tsz; split <;> omega
theorem len_le_sum : ∀ (l : List Nat), (∀ x ∈ l, 1 ≤ x) → l.length ≤ l.sum
  | [], _ => by simp
  | a :: l, h => by
    have := len_le_sum l (fun x hx => h x (List.mem_cons_of_mem _ hx))
    have := h a (List.mem_cons_self ..)
    rw [List.sum_cons, List.length_cons]; omega
theorem Nd.items_le (n : Nd) : n.items ≤ n.szs.sum := by
  rw [← Nd.szs_len]
  refine len_le_sum _ fun x hx => ?_
  unfold Nd.szs at hx
  split at hx
  · obtain ⟨c, _, rfl⟩ := List.mem_map.1 hx
    have := tsz_pos c.key
    unfold Cl.sz; omega
  · obtain ⟨c, _, rfl⟩ := List.mem_map.1 hx
    unfold ksz; omega
theorem Nd.Ok.lens {n : Nd} (h : n.Ok) : n.cells.length ≤ 1992 ∧ n.keys.length ≤ 1992 ∧ n.kids.length ≤ 1993 := by
  have h1 := n.items_le
  have h2 := h.size
  have h3 := h.kind
  unfold Nd.size at h2
  unfold Nd.items at h1
  unfold Nd.Kind at h3
  cases hl : n.leaf
  · rw [hl] at h1 h3
    simp only [Bool.false_eq_true, if_false] at h1 h3
    omega
  · rw [hl] at h1 h3
    simp only [if_true] at h1 h3
    omega
theorem Wn.start {u w : World} {B X : Nat} {o : Obj} (t : TypeId) (hb : Below B u w) (hB : B ≤ w.heap.size) (hx : w.heap[X]? = some o) : Wn u (w.alloc (.cells #[.slice none 0 0] t)) B w.heap.size w.heap.size X o [] := by
  have hX := (Array.getElem?_eq_some_iff.1 hx).1
  exact ⟨W.Wr.new w t, hB, hB, hb.alloc hB _, (Below.heap_alloc w _ X hX).trans hx, Nat.ne_of_lt hX, Nat.ne_of_lt hX, by simp; omega⟩
noncomputable def Nd.enc (n : Nd) : ByteArray × Int := if n.check ≠ 0 then (⟨#[]⟩, n.check) else if 996 < n.size then (⟨#[]⟩, 82) else (⟨n.body.toArray⟩, 0)
set_option maxRecDepth 100000 in
set_option maxHeartbeats 4000000 in
theorem nEncode (n : Nd) (a : Nv) (u : World) (h : NdAt u n a) : Calls Try.prog 17 #[a.v n] u fun e u' => e = .returned (.tuple #[.string n.enc.1, .int .i64 n.enc.2]) ∧ Below u.heap.size u u' := by
  have H1 := hide (fun (v : World) (hb : Below u.heap.size u v) => nCheck n a v (h.below hb))
  have H2 := hide (fun (hc : n.check = 0) (v : World) (hb : Below u.heap.size u v) => nSize n a (Nd.check_zero.1 hc).small v (h.below hb))
  have H3 := hide (fun (hc : n.check = 0) (w : World) (A R X : Nat) (o0 : Obj) (hw : Wn u w u.heap.size A R X o0 []) => nPutLeaf n a u w h (Nd.check_zero.1 hc).small (Nd.check_zero.1 hc).lens.1 A R X o0 hw)
  have H4 := hide (fun (hc : n.check = 0) (hl : n.leaf = false) (w : World) (A R X : Nat) (o0 : Obj) (hw : Wn u w u.heap.size A R X o0 []) => nPutBranch n a u w h (Nd.check_zero.1 hc).small (Nd.check_zero.1 hc).lens.2.1 (by have := (Nd.check_zero.1 hc).kind; unfold Nd.Kind at this; rw [hl] at this; simp at this; exact this.2.2) A R X o0 hw)
  have HE1 : Hid (n.check ≠ 0 → n.enc = (⟨#[]⟩, n.check)) := fun hx => if_pos hx
  have HE2 : Hid (n.check = 0 → 996 < n.size → n.enc = (⟨#[]⟩, 82)) := fun hx hy => by rw [Nd.enc, if_neg (fun z => z hx), if_pos hy]
  have HE3 : Hid (n.check = 0 → ¬ 996 < n.size → n.enc = (⟨n.body.toArray⟩, 0)) := fun hx hy => by rw [Nd.enc, if_neg (fun z => z hx), if_neg hy]
  have HE4 : Hid (n.leaf = true → n.body = [1] ++ W.fixB n.cells.length 2 ++ cellsB n.cells) := fun hl => by simp [Nd.body, hl]
  have HE5 : Hid (n.leaf = false → n.body = [2] ++ W.fixB n.keys.length 2 ++ W.fixB (n.kids.getD 0 0) 4 ++ keysB n.keys n.kids.tail) := fun hl => by simp [Nd.body, hl]
  clear h
  obtain ⟨N, hN⟩ : ∃ N, N = u.heap.size := ⟨_, rfl⟩
  have HN := hide hN
  rw [← hN] at H1 H2 H3 H4 ⊢
  clear hN
  obtain ⟨E, hE⟩ : ∃ E, E = n.enc := ⟨_, rfl⟩
  rw [← hE] at HE1 HE2 HE3 ⊢
  clear hE
  rw [Nv.v_eq] at H1 H2 H3 H4 ⊢
  obtain ⟨ca, cc, ka, kc, ga, gc⟩ := a
  generalize n.check = c at *
  generalize n.size = sz at *
  generalize [1] ++ W.fixB n.cells.length 2 ++ cellsB n.cells = F1 at *
  generalize [2] ++ W.fixB n.keys.length 2 ++ W.fixB (n.kids.getD 0 0) 4 ++ keysB n.keys n.kids.tail = F2 at *
  generalize n.body = F at *
  generalize n.cells.length = cn at *
  generalize n.keys.length = kn at *
  generalize n.kids.length = gn at *
  generalize n.leaf = l0 at *
  by_cases h1 : c = 0
  · replace H2 := hide (unhide H2 h1)
    replace H3 := hide (unhide H3 h1)
    replace H4 := hide (unhide H4 h1)
    replace HE2 := hide (unhide HE2 h1)
    replace HE3 := hide (unhide HE3 h1)
    clear HE1
    subst h1
    by_cases h2 : 996 < sz
    · obtain rfl := unhide HE2 h2
      have h2i : (996 : Int) < (sz : Int) := by omega
      clear HE2 HE3 HE4 HE5 H3 H4
      go_enter Try.func17, Try.ntmps17
      go_wp2_with (first
        | (with_reducible refine wpList_box_node (by rfl) (.tmp 0) (by rfl) (some 1) (by rfl) N (unhide HN) _ ca cn cc ka kn kc ga gn gc (by with_unfolding_all rfl) ?_; intro W1 HX1 HW1 HS1; simp only [Act.put, List.setIfInBounds_toArray, List.set_cons_zero, List.set_cons_succ]; obtain ⟨y0, y1, y2, y3⟩ := box4 (unhide HX1))
        | fail)
      refine (unhide H1 _ (unhide HW1)).mono ?_
      rintro e W2 ⟨rfl, hb2⟩
      have HW2 := hide ((unhide HW1).trans (hb2.mono (by rw [unhide HS1]; omega)))
      have HX2 := hide (box_below (unhide HX1) hb2)
      have HNW : Hid (N ≤ W2.heap.size) := Nat.le_trans (by rw [unhide HS1]; omega) hb2.size
      clear hb2 y0 y1 y2 y3
      obtain ⟨y0, y1, y2, y3⟩ := box4 (unhide HX2)
      go_wp2_with fail
      refine (unhide H2 _ (unhide HW2)).mono ?_
      rintro e W3 ⟨rfl, hb3⟩
      have HW3 := hide ((unhide HW2).trans (hb3.mono (unhide HNW)))
      clear hb3 y0 y1 y2 y3
      go_wp2
      go_ret2
      exact ⟨rfl, unhide HW3⟩
    · obtain rfl := unhide HE3 h2
      have h2i : ¬ (996 : Int) < (sz : Int) := by omega
      clear HE2 HE3 h2
      cases l0
      · obtain rfl := unhide HE5 rfl
        have H5 := hide (unhide H4 rfl)
        clear HE4 HE5 H3 H4
        go_enter Try.func17, Try.ntmps17
        go_wp2_with (first
          | (with_reducible refine wpList_box_node (by rfl) (.tmp 0) (by rfl) (some 1) (by rfl) N (unhide HN) _ ca cn cc ka kn kc ga gn gc (by with_unfolding_all rfl) ?_; intro W1 HX1 HW1 HS1; simp only [Act.put, List.setIfInBounds_toArray, List.set_cons_zero, List.set_cons_succ]; obtain ⟨y0, y1, y2, y3⟩ := box4 (unhide HX1))
          | fail)
        refine (unhide H1 _ (unhide HW1)).mono ?_
        rintro e W2 ⟨rfl, hb2⟩
        have HW2 := hide ((unhide HW1).trans (hb2.mono (by rw [unhide HS1]; omega)))
        have HX2 := hide (box_below (unhide HX1) hb2)
        have HNW : Hid (N ≤ W2.heap.size) := Nat.le_trans (by rw [unhide HS1]; omega) hb2.size
        clear hb2 y0 y1 y2 y3
        obtain ⟨y0, y1, y2, y3⟩ := box4 (unhide HX2)
        go_wp2_with fail
        refine (unhide H2 _ (unhide HW2)).mono ?_
        rintro e W3 ⟨rfl, hb3⟩
        have HW3 := hide ((unhide HW2).trans (hb3.mono (unhide HNW)))
        have HX3 := hide (box_below (unhide HX2) hb3)
        have HNW3 : Hid (N ≤ W3.heap.size) := Nat.le_trans (unhide HNW) hb3.size
        clear hb3 y0 y1 y2 y3
        go_wp2_with fail
        refine (W.wNew W3).mono ?_
        rintro e W4 ⟨rfl, hw4⟩
        have hv4 := Wn.start 113 (unhide HW3) (unhide HNW3) (unhide HX3)
        rw [← hw4] at hv4
        have HV4 := hide hv4
        clear hv4
        clear hw4
        generalize W3.heap.size = A at *
        obtain ⟨y0, y1, y2, y3⟩ := box4 (unhide HV4).box
        go_wp2_with fail
        refine (unhide H5 W4 A A N _ (unhide HV4)).mono ?_
        rintro e W5 ⟨rfl, R5, hv5⟩
        have HV5 := hide hv5
        clear hv5 y0 y1 y2 y3
        go_wp2_with fail
        refine (W.wTold A R5 _ W5 (unhide HV5).wr).mono ?_
        rintro e W6 ⟨rfl, hw6⟩
        obtain rfl := hw6
        go_wp2
        go_ret2
        exact ⟨rfl, (unhide HV5).bel⟩
      · obtain rfl := unhide HE4 rfl
        have H5 := hide (unhide H3)
        clear HE4 HE5 H3 H4
        go_enter Try.func17, Try.ntmps17
        go_wp2_with (first
          | (with_reducible refine wpList_box_node (by rfl) (.tmp 0) (by rfl) (some 1) (by rfl) N (unhide HN) _ ca cn cc ka kn kc ga gn gc (by with_unfolding_all rfl) ?_; intro W1 HX1 HW1 HS1; simp only [Act.put, List.setIfInBounds_toArray, List.set_cons_zero, List.set_cons_succ]; obtain ⟨y0, y1, y2, y3⟩ := box4 (unhide HX1))
          | fail)
        refine (unhide H1 _ (unhide HW1)).mono ?_
        rintro e W2 ⟨rfl, hb2⟩
        have HW2 := hide ((unhide HW1).trans (hb2.mono (by rw [unhide HS1]; omega)))
        have HX2 := hide (box_below (unhide HX1) hb2)
        have HNW : Hid (N ≤ W2.heap.size) := Nat.le_trans (by rw [unhide HS1]; omega) hb2.size
        clear hb2 y0 y1 y2 y3
        obtain ⟨y0, y1, y2, y3⟩ := box4 (unhide HX2)
        go_wp2_with fail
        refine (unhide H2 _ (unhide HW2)).mono ?_
        rintro e W3 ⟨rfl, hb3⟩
        have HW3 := hide ((unhide HW2).trans (hb3.mono (unhide HNW)))
        have HX3 := hide (box_below (unhide HX2) hb3)
        have HNW3 : Hid (N ≤ W3.heap.size) := Nat.le_trans (unhide HNW) hb3.size
        clear hb3 y0 y1 y2 y3
        go_wp2_with fail
        refine (W.wNew W3).mono ?_
        rintro e W4 ⟨rfl, hw4⟩
        have hv4 := Wn.start 113 (unhide HW3) (unhide HNW3) (unhide HX3)
        rw [← hw4] at hv4
        have HV4 := hide hv4
        clear hv4
        clear hw4
        generalize W3.heap.size = A at *
        obtain ⟨y0, y1, y2, y3⟩ := box4 (unhide HV4).box
        go_wp2_with fail
        refine (unhide H5 W4 A A N _ (unhide HV4)).mono ?_
        rintro e W5 ⟨rfl, R5, hv5⟩
        have HV5 := hide hv5
        clear hv5 y0 y1 y2 y3
        go_wp2_with fail
        refine (W.wTold A R5 _ W5 (unhide HV5).wr).mono ?_
        rintro e W6 ⟨rfl, hw6⟩
        obtain rfl := hw6
        go_wp2
        go_ret2
        exact ⟨rfl, (unhide HV5).bel⟩
  · obtain rfl := unhide HE1 h1
    clear HE1 HE2 HE3 HE4 HE5 H2 H3 H4
    go_enter Try.func17, Try.ntmps17
    go_wp2_with (first
      | (with_reducible refine wpList_box_node (by rfl) (.tmp 0) (by rfl) (some 1) (by rfl) N (unhide HN) _ ca cn cc ka kn kc ga gn gc (by with_unfolding_all rfl) ?_; intro W1 HX1 HW1 HS1; simp only [Act.put, List.setIfInBounds_toArray, List.set_cons_zero, List.set_cons_succ]; obtain ⟨y0, y1, y2, y3⟩ := box4 (unhide HX1))
      | fail)
    refine (unhide H1 _ (unhide HW1)).mono ?_
    rintro e W2 ⟨rfl, hb2⟩
    have HW2 := hide ((unhide HW1).trans (hb2.mono (by rw [unhide HS1]; omega)))
    clear hb2 y0 y1 y2 y3
    go_wp2
    go_ret2
    exact ⟨rfl, unhide HW2⟩
end Go.Proofs.Ytppmpomfihalfaa
