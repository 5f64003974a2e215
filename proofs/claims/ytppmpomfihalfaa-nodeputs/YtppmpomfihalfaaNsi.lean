/- Nodes: Put and Take, with what lies in the row that they lay (written by mknsi.py out of Np and Nq). -/
import Derived.Test.YtppmpomfihalfaaNsg
namespace Go.Proofs.Ytppmpomfihalfaa
open Go.RowKit

/-- a leaf in a row of its own -/
def NdO (w : World) (m : Nd) (G c : Nat) : Prop := NdAt w m ⟨some ⟨G, 0, none⟩, c, none, 0, none, 0⟩ ∧ w.heap[G]? = some (.cells (flatC m.cells).toArray 66 (0, 0)) ∧ c = m.cells.length
theorem NdO.below {w w' : World} {m : Nd} {G c : Nat} (h : NdO w m G c) (hb : Below w.heap.size w w') : NdO w' m G c := ⟨h.1.below hb, box_below h.2.1 hb, h.2.2⟩
theorem NdO.setRow {w : World} {m : Nd} {G c : Nat} (h : NdO w m G c) (g : Nat) (cs : Array Value) (hg : G ≠ g) : NdO (w.setRow g cs) m G c := ⟨h.1.setRow g cs hg, (heapRow_other w g G cs hg).trans h.2.1, h.2.2⟩
theorem NdO.ow {w : World} {m : Nd} {G c B : Nat} (h : NdO w m G c) (hB : B ≤ G) (hk : m.keys = []) (hg : m.kids = []) (hl : m.cells.length ≤ 1048576) : Ow w B m.cells m.keys m.kids ⟨some ⟨G, 0, none⟩, c, none, 0, none, 0⟩ := by
  refine ⟨⟨flatC_len _, .inr ⟨G, c, (flatC m.cells).toArray, rfl, hB, h.2.1, by rw [h.2.2]; exact Nat.le_refl _, by rw [h.2.2]; simp only [maxLen]; omega, by rw [h.2.2, List.size_toArray, flatC_len], ?_⟩⟩, ?_, ?_⟩
  · show (flatC m.cells).take (m.cells.length * 2) = flatC m.cells
    rw [List.take_of_length_le (by rw [flatC_len]; exact Nat.le_refl _)]
  · rw [hk]; exact World.ownsRow_nil _ _ _ _
  · rw [hg]; exact World.ownsRow_nil _ _ _ _
theorem zero_ow (w : World) (B : Nat) : Ow w B [] [] [] ⟨none, 0, none, 0, none, 0⟩ := ⟨World.ownsRow_nil _ _ _ _, World.ownsRow_nil _ _ _ _, World.ownsRow_nil _ _ _ _⟩
/-- what Put answers -/
def PutRO (u w' : World) (n : Nd) (key val : ByteArray) (V : Value) (E : Int) : Prop :=
  (n.refused true ≠ 0 ∧ E = n.refused true ∧ V = zeroV) ∨ (n.refused true = 0 ∧ key.size = 0 ∧ E = 1 ∧ V = zeroV) ∨
  (n.refused true = 0 ∧ key.size ≠ 0 ∧ (n.put key val).check ≠ 0 ∧ E = (n.put key val).check ∧ V = zeroV) ∨
  (n.refused true = 0 ∧ key.size ≠ 0 ∧ (n.put key val).check = 0 ∧ E = 0 ∧ ∃ G c, V = (Nv.mk (some ⟨G, 0, none⟩) c none 0 none 0).v (n.put key val) ∧ u.heap.size ≤ G ∧ NdO w' (n.put key val) G c)
set_option maxRecDepth 100000 in
set_option maxHeartbeats 4000000 in
theorem nPutO (n : Nd) (a : Nv) (key val : ByteArray) (hk : key.size ≤ 140737488355328) (hv : val.size ≤ 140737488355328) (u : World) (h : NdAt u n a) : Calls Try.prog 35 #[a.v n, .string key, .string val] u fun e u' => ∃ V E, e = .returned (.tuple #[V, .int .i64 E]) ∧ PutRO u u' n key val V E ∧ Below u.heap.size u u' := by
  have H1 := hide (fun (v : World) (hb : Below u.heap.size u v) => nRefused n a true v (h.below hb))
  have H2 : Hid (n.refused true = 0 → ∀ (v : World), Below u.heap.size u v → Calls Try.prog 83 #[.slice a.ca n.cells.length a.cc, .string key] v fun e u' => e = .returned (.tuple #[.int .i64 (plc n.cells key : Int), .bool (n.found key)]) ∧ Below v.heap.size v u') := fun hc v hb => nPlace n.cells key a.ca a.cc v (h.below hb).cells h.len.1 (Nd.refused_zero.1 hc).1.up.1
  have H3 : Hid (n.refused true = 0 → ∀ (v : World) (g c : Nat), Below u.heap.size u v → v.cell? ⟨g, 0, none⟩ = some (.string key) → v.cell? ⟨g, 1, none⟩ = some (.string val) → Calls Try.prog 86 #[.slice a.ca n.cells.length a.cc, .int .i64 (plc n.cells key : Int), .int .i64 (n.to key : Int), .slice (some ⟨g, 0, none⟩) 1 c] v fun e u' => ∃ G c, e = .returned (.slice (some ⟨G, 0, none⟩) (n.put key val).cells.length c) ∧ v.heap.size ≤ G ∧ NdO u' (n.put key val) G c ∧ Below v.heap.size v u') := fun hc v g c hb c0 c1 => by
    have hok := (Nd.refused_zero.1 hc).1
    have hll := hok.lens.1
    have hto := n.to_le key
    have h3 := nSplC (flatC n.cells) (flatC [⟨key, val⟩]) a.ca (some ⟨g, 0, none⟩) n.cells.length a.cc 1 c (plc n.cells key) (n.to key) v (h.below hb).cells (flatC_len _) (fun _ => ⟨g, 0, rfl, fun j x hx => by
      match j, hx with
      | 0, hx => simp [flatC, Cl.cs] at hx; rw [← hx]; exact c0
      | 1, hx => simp [flatC, Cl.cs] at hx; rw [← hx]; exact c1
      | j + 2, hx => simp [flatC, Cl.cs] at hx⟩) rfl (flatC_one _) (flatC_one _) h.cap.1 hto.1 hto.2 (by omega) (by decide)
    refine h3.mono ?_
    rintro e w' ⟨G, he, hG, hr, hb'⟩
    have hlen : (n.put key val).cells.length = plc n.cells key + 1 + (n.cells.length - n.to key) := by
      have := plc_le n.cells key
      simp only [Nd.put, List.length_append, List.length_take, List.length_cons, List.length_drop]
      omega
    rw [flatC_take, flatC_drop, ← flatC_append, ← flatC_append] at hr
    refine ⟨G, plc n.cells key + 1 + (n.cells.length - n.to key), by rw [hlen]; exact he, hG, ⟨⟨Lies.row hr, Lies.nil _ _, Lies.nil _ _, fun k hk => (by cases hk), ⟨by rw [hlen]; omega, by simp [Nd.put], by simp [Nd.put]⟩, fun c hc => ?_, ⟨by rw [hlen]; exact Nat.le_refl _, by simp [Nd.put], by simp [Nd.put]⟩⟩, hr, hlen.symm⟩, hb'⟩
    rcases List.mem_append.1 hc with hc | hc
    · exact h.str c (List.mem_of_mem_take hc)
    · rcases List.mem_cons.1 hc with rfl | hc
      · exact ⟨hk, hv⟩
      · exact h.str c (List.mem_of_mem_drop hc)
  have H4 := hide (fun (v : World) (b : Nv) (hv : NdAt v (n.put key val) b) => nChecked (n.put key val) b v hv)
  clear h
  have HP : Hid (∀ w' V E, ((n.refused true ≠ 0 ∧ E = n.refused true ∧ V = zeroV) ∨ (n.refused true = 0 ∧ key.size = 0 ∧ E = 1 ∧ V = zeroV) ∨ (n.refused true = 0 ∧ key.size ≠ 0 ∧ (n.put key val).check ≠ 0 ∧ E = (n.put key val).check ∧ V = zeroV) ∨ (n.refused true = 0 ∧ key.size ≠ 0 ∧ (n.put key val).check = 0 ∧ E = 0 ∧ ∃ G c, V = (Nv.mk (some ⟨G, 0, none⟩) c none 0 none 0).v (n.put key val) ∧ u.heap.size ≤ G ∧ NdO w' (n.put key val) G c)) → PutRO u w' n key val V E) := fun _ _ _ h => h
  have HTO : Hid (n.to key = if n.found key then plc n.cells key + 1 else plc n.cells key) := rfl
  have HTL := hide (n.to_le key)
  have HNL := hide (fun hc : n.refused true = 0 => (Nd.refused_zero.1 hc).1.lens.1)
  have HLF : Hid ((n.put key val).leaf = true ∧ (n.put key val).keys.length = 0 ∧ (n.put key val).kids.length = 0) := ⟨rfl, rfl, rfl⟩
  obtain ⟨N, hN⟩ : ∃ N, N = u.heap.size := ⟨_, rfl⟩
  have HN := hide hN
  rw [← hN] at H1 H2 H3 HP ⊢
  clear hN
  rw [Nv.v_eq] at H1 ⊢
  obtain ⟨ca, cc, ka, kc, ga, gc⟩ := a
  generalize PutRO u = PR at *
  generalize n.put key val = m at *
  generalize n.found key = fd at *
  generalize n.to key = tt at *
  generalize plc n.cells key = t at *
  generalize n.refused true = c at *
  generalize n.cells.length = cn at *
  generalize n.keys.length = kn at *
  generalize n.kids.length = gn at *
  generalize n.leaf = l0 at *
  have HBV : Hid (∀ (G c : Nat), (Nv.mk (some ⟨G, 0, none⟩) c none 0 none 0).v m = .agg #[.bool true, .slice (some ⟨G, 0, none⟩) m.cells.length c, .slice none 0 0, .slice none 0 0]) := fun G c => by
    show _ = _
    rw [Nv.v_eq, (unhide HLF).1, (unhide HLF).2.1, (unhide HLF).2.2]
  have H5 : Hid (∀ (v : World) (G c : Nat), NdAt v m ⟨some ⟨G, 0, none⟩, c, none, 0, none, 0⟩ → Calls Try.prog 87 #[.agg #[.bool true, .slice (some ⟨G, 0, none⟩) m.cells.length c, .slice none 0 0, .slice none 0 0]] v fun e u' => (m.check = 0 → e = .returned (.tuple #[.agg #[.bool true, .slice (some ⟨G, 0, none⟩) m.cells.length c, .slice none 0 0, .slice none 0 0], .int .i64 0])) ∧ (m.check ≠ 0 → e = .returned (.tuple #[.agg #[.bool false, .slice none 0 0, .slice none 0 0, .slice none 0 0], .int .i64 m.check])) ∧ Below v.heap.size v u') := fun v G c hv => by
    have := unhide H4 v _ hv
    rw [unhide HBV] at this
    exact this
  clear H4 hk hv
  by_cases h1 : c = 0
  · replace H2 := hide (unhide H2 h1)
    replace H3 := hide (unhide H3 h1)
    have htn : tt ≤ 1992 := Nat.le_trans (unhide HTL).2 (unhide HNL h1)
    subst h1
    by_cases hk0 : key.size = 0
    · have hkb : (key.toList == []) = true := by simp [empty_list, hk0]
      clear H2 H3 H5 HTO HTL HNL HBV htn
      go_enter Try.func35, Try.ntmps35
      go_wp2_with (first
        | (with_reducible refine wpList_box_node (by rfl) (.tmp 0) (by rfl) (some 3) (by rfl) N (unhide HN) _ ca cn cc ka kn kc ga gn gc (by with_unfolding_all rfl) ?_; intro W1 HX1 HW1 HS1; simp only [Act.put, List.setIfInBounds_toArray, List.set_cons_zero, List.set_cons_succ])
        | (with_reducible refine wpList_alloc_node (by rfl) (by rfl) (some 6) (by rfl) (N + 1) (unhide HS1).symm ?_; intro W2 HX2 HW2 HS2; simp only [Act.put, List.setIfInBounds_toArray, List.set_cons_zero, List.set_cons_succ]; have HX3 := hide (((unhide HW2).block N (Nat.lt_succ_self N)).trans (unhide HX1)); obtain ⟨y0, y1, y2, y3⟩ := box4 (unhide HX3))
        | fail)
      have HB2 : Hid (Below N u W2) := (unhide HW1).trans ((unhide HW2).mono (Nat.le_succ N))
      have HZ2 : Hid (N + 2 ≤ W2.heap.size) := by rw [unhide HS2]; exact Nat.le_refl _
      clear HX1 HW1 HS1 HW2 HS2
      refine (unhide H1 _ (unhide HB2)).mono ?_
      rintro e W3 ⟨rfl, hb3⟩
      have HB3 : Hid (Below N u W3) := (unhide HB2).trans (hb3.mono (by have := unhide HZ2; omega))
      have HX5 := hide (box_below (unhide HX3) hb3)
      have HX6 := hide (box_below (unhide HX2) hb3)
      have HZ3 : Hid (N + 2 ≤ W3.heap.size) := Nat.le_trans (unhide HZ2) hb3.size
      clear hb3 y0 y1 y2 y3 HX2 HX3 HB2 HZ2
      obtain ⟨y0, y1, y2, y3⟩ := box4 (unhide HX5)
      go_wp2_with (first
        | (with_reducible refine wpList_store_node (by rfl) (.tmp 6) (.tmp 21) (by rfl) (N + 1) false none 0 0 none 0 0 none 0 0 (by with_unfolding_all rfl) (by with_unfolding_all rfl) (unhide HX6) ?_; intro W6 HX9 HE9; simp only [Act.put])
        | fail)
      have HW6 : Hid (Below N u W6) := by rw [unhide HE9]; exact belowRow (unhide HB3) (Nat.le_succ N) _
      clear HE9
      go_wp2
      refine bodyPost_ret (results_cell_tmp rfl _ _ (N + 1) 26 #[.bool false, .slice none 0 0, .slice none 0 0, .slice none 0 0] (0, 0) _ rfl (unhide HX9) nodeUnd rfl nodeInfo) rfl ?_
      exact ⟨_, _, rfl, unhide HP _ _ _ (.inr (.inl ⟨(by first | trivial | rfl), hk0, rfl, rfl⟩)), unhide HW6⟩
    · have hkb : (key.toList == []) = false := by simp [empty_list, hk0]
      cases fd
      · obtain rfl : tt = t := unhide HTO
        clear HTO HTL HNL
        go_enter Try.func35, Try.ntmps35
        go_wp2_with (first
          | (with_reducible refine wpList_box_node (by rfl) (.tmp 0) (by rfl) (some 3) (by rfl) N (unhide HN) _ ca cn cc ka kn kc ga gn gc (by with_unfolding_all rfl) ?_; intro W1 HX1 HW1 HS1; simp only [Act.put, List.setIfInBounds_toArray, List.set_cons_zero, List.set_cons_succ])
          | (with_reducible refine wpList_alloc_node (by rfl) (by rfl) (some 6) (by rfl) (N + 1) (unhide HS1).symm ?_; intro W2 HX2 HW2 HS2; simp only [Act.put, List.setIfInBounds_toArray, List.set_cons_zero, List.set_cons_succ]; have HX3 := hide (((unhide HW2).block N (Nat.lt_succ_self N)).trans (unhide HX1)); obtain ⟨y0, y1, y2, y3⟩ := box4 (unhide HX3))
          | fail)
        have HB2 : Hid (Below N u W2) := (unhide HW1).trans ((unhide HW2).mono (Nat.le_succ N))
        have HZ2 : Hid (N + 2 ≤ W2.heap.size) := by rw [unhide HS2]; exact Nat.le_refl _
        clear HX1 HW1 HS1 HW2 HS2
        refine (unhide H1 _ (unhide HB2)).mono ?_
        rintro e W3 ⟨rfl, hb3⟩
        have HB3 : Hid (Below N u W3) := (unhide HB2).trans (hb3.mono (by have := unhide HZ2; omega))
        have HX5 := hide (box_below (unhide HX3) hb3)
        have HX6 := hide (box_below (unhide HX2) hb3)
        have HZ3 : Hid (N + 2 ≤ W3.heap.size) := Nat.le_trans (unhide HZ2) hb3.size
        clear hb3 y0 y1 y2 y3 HX2 HX3 HB2 HZ2
        obtain ⟨y0, y1, y2, y3⟩ := box4 (unhide HX5)
        go_wp2_with fail
        refine (unhide H2 _ (unhide HB3)).mono ?_
        rintro e W4 ⟨rfl, hb4⟩
        have HB4 : Hid (Below N u W4) := (unhide HB3).trans (hb4.mono (by have := unhide HZ3; omega))
        have HX7 := hide (box_below (unhide HX5) hb4)
        have HX8 := hide (box_below (unhide HX6) hb4)
        have HZ4 : Hid (N + 2 ≤ W4.heap.size) := Nat.le_trans (unhide HZ3) hb4.size
        clear hb4 y0 y1 y2 y3 HX5 HX6 HB3 HZ3
        obtain ⟨y0, y1, y2, y3⟩ := box4 (unhide HX7)
        go_wp2_with fail
        have HB5 : Hid (Below N u (W4.alloc (.cells #[.string key, .string val] 66))) := (unhide HB4).alloc (by have := unhide HZ4; omega) _
        refine (unhide H3 _ _ _ (unhide HB5) (by simp [go_sem]) (by simp [go_sem])).mono ?_
        rintro e W6 ⟨G, c6, rfl, hG, hnd, hb6⟩
        have HG : Hid (N + 2 ≤ G) := by
          have : N + 2 ≤ G := by have := unhide HZ4; simp at hG; omega
          exact this
        have HND := hide hnd
        have HX9 := hide (box_below ((Below.heap_alloc W4 _ (N + 1) (by have := unhide HZ4; omega)).trans (unhide HX8)) hb6)
        have HB6 : Hid (Below N u W6) := (unhide HB5).trans (hb6.mono (by have := unhide HZ4; simp; omega))
        have HZ6 : Hid (N + 2 ≤ W6.heap.size) := Nat.le_trans (unhide HZ4) (Nat.le_trans (by simp) hb6.size)
        clear hG hnd hb6 HB5 HX7 HX8 y0 y1 y2 y3 HB4 HZ4
        go_wp2_with fail
        refine (unhide H5 W6 G c6 (unhide HND).1).mono ?_
        rintro e W7 ⟨he1, he2, hb7⟩
        have HND7 := hide ((unhide HND).below hb7)
        have HX10 := hide (box_below (unhide HX9) hb7)
        have HB7 : Hid (Below N u W7) := (unhide HB6).trans (hb7.mono (by have := unhide HZ6; omega))
        clear hb7 HND HX9 HB6 HZ6
        by_cases hmc : m.check = 0
        · obtain rfl := he1 hmc
          clear he1 he2
          go_wp2_with (first
            | (with_reducible refine wpList_store_node (by rfl) (.tmp 6) (.tmp 45) (by rfl) (N + 1) true (some ⟨G, 0, none⟩) m.cells.length c6 none 0 0 none 0 0 (by with_unfolding_all rfl) (by with_unfolding_all rfl) (unhide HX10) ?_; intro W8 HX11 HE11; simp only [Act.put])
            | fail)
          have HW8 : Hid (Below N u W8) := by rw [unhide HE11]; exact belowRow (unhide HB7) (Nat.le_succ N) _
          have HND8 : Hid (NdO W8 m G c6) := by
            rw [unhide HE11]
            exact (unhide HND7).setRow (N + 1) _ (by have := unhide HG; omega)
          clear HE11
          go_wp2
          refine bodyPost_ret (results_cell_tmp rfl _ _ (N + 1) 26 #[.bool true, .slice (some ⟨G, 0, none⟩) m.cells.length c6, .slice none 0 0, .slice none 0 0] (0, 0) _ rfl (unhide HX11) nodeUnd rfl nodeInfo) rfl ?_
          exact ⟨_, _, rfl, unhide HP _ _ _ (.inr (.inr (.inr ⟨(by first | trivial | rfl), hk0, hmc, rfl, G, c6, (unhide HBV _ _).symm, (by have := unhide HG; omega), unhide HND8⟩))), unhide HW8⟩
        · obtain rfl := he2 hmc
          clear he1 he2
          generalize m.check = mc at *
          go_wp2_with (first
            | (with_reducible refine wpList_store_node (by rfl) (.tmp 6) (.tmp 45) (by rfl) (N + 1) false none 0 0 none 0 0 none 0 0 (by with_unfolding_all rfl) (by with_unfolding_all rfl) (unhide HX10) ?_; intro W8 HX11 HE11; simp only [Act.put])
            | fail)
          have HW8 : Hid (Below N u W8) := by rw [unhide HE11]; exact belowRow (unhide HB7) (Nat.le_succ N) _
          clear HE11
          go_wp2
          refine bodyPost_ret (results_cell_tmp rfl _ _ (N + 1) 26 #[.bool false, .slice none 0 0, .slice none 0 0, .slice none 0 0] (0, 0) _ rfl (unhide HX11) nodeUnd rfl nodeInfo) rfl ?_
          exact ⟨_, _, rfl, unhide HP _ _ _ (.inr (.inr (.inl ⟨(by first | trivial | rfl), hk0, hmc, rfl, rfl⟩))), unhide HW8⟩
      · obtain rfl : tt = t + 1 := unhide HTO
        have hti : (t : Int) ≤ 1992 := by omega
        clear HTO HTL HNL htn
        go_enter Try.func35, Try.ntmps35
        go_wp2_with (first
          | (with_reducible refine wpList_box_node (by rfl) (.tmp 0) (by rfl) (some 3) (by rfl) N (unhide HN) _ ca cn cc ka kn kc ga gn gc (by with_unfolding_all rfl) ?_; intro W1 HX1 HW1 HS1; simp only [Act.put, List.setIfInBounds_toArray, List.set_cons_zero, List.set_cons_succ])
          | (with_reducible refine wpList_alloc_node (by rfl) (by rfl) (some 6) (by rfl) (N + 1) (unhide HS1).symm ?_; intro W2 HX2 HW2 HS2; simp only [Act.put, List.setIfInBounds_toArray, List.set_cons_zero, List.set_cons_succ]; have HX3 := hide (((unhide HW2).block N (Nat.lt_succ_self N)).trans (unhide HX1)); obtain ⟨y0, y1, y2, y3⟩ := box4 (unhide HX3))
          | fail)
        have HB2 : Hid (Below N u W2) := (unhide HW1).trans ((unhide HW2).mono (Nat.le_succ N))
        have HZ2 : Hid (N + 2 ≤ W2.heap.size) := by rw [unhide HS2]; exact Nat.le_refl _
        clear HX1 HW1 HS1 HW2 HS2
        refine (unhide H1 _ (unhide HB2)).mono ?_
        rintro e W3 ⟨rfl, hb3⟩
        have HB3 : Hid (Below N u W3) := (unhide HB2).trans (hb3.mono (by have := unhide HZ2; omega))
        have HX5 := hide (box_below (unhide HX3) hb3)
        have HX6 := hide (box_below (unhide HX2) hb3)
        have HZ3 : Hid (N + 2 ≤ W3.heap.size) := Nat.le_trans (unhide HZ2) hb3.size
        clear hb3 y0 y1 y2 y3 HX2 HX3 HB2 HZ2
        obtain ⟨y0, y1, y2, y3⟩ := box4 (unhide HX5)
        go_wp2_with fail
        refine (unhide H2 _ (unhide HB3)).mono ?_
        rintro e W4 ⟨rfl, hb4⟩
        have HB4 : Hid (Below N u W4) := (unhide HB3).trans (hb4.mono (by have := unhide HZ3; omega))
        have HX7 := hide (box_below (unhide HX5) hb4)
        have HX8 := hide (box_below (unhide HX6) hb4)
        have HZ4 : Hid (N + 2 ≤ W4.heap.size) := Nat.le_trans (unhide HZ3) hb4.size
        clear hb4 y0 y1 y2 y3 HX5 HX6 HB3 HZ3
        obtain ⟨y0, y1, y2, y3⟩ := box4 (unhide HX7)
        go_wp2_with fail
        have HB5 : Hid (Below N u (W4.alloc (.cells #[.string key, .string val] 66))) := (unhide HB4).alloc (by have := unhide HZ4; omega) _
        refine (unhide H3 _ _ _ (unhide HB5) (by simp [go_sem]) (by simp [go_sem])).mono ?_
        rintro e W6 ⟨G, c6, rfl, hG, hnd, hb6⟩
        have HG : Hid (N + 2 ≤ G) := by
          have : N + 2 ≤ G := by have := unhide HZ4; simp at hG; omega
          exact this
        have HND := hide hnd
        have HX9 := hide (box_below ((Below.heap_alloc W4 _ (N + 1) (by have := unhide HZ4; omega)).trans (unhide HX8)) hb6)
        have HB6 : Hid (Below N u W6) := (unhide HB5).trans (hb6.mono (by have := unhide HZ4; simp; omega))
        have HZ6 : Hid (N + 2 ≤ W6.heap.size) := Nat.le_trans (unhide HZ4) (Nat.le_trans (by simp) hb6.size)
        clear hG hnd hb6 HB5 HX7 HX8 y0 y1 y2 y3 HB4 HZ4
        go_wp2_with fail
        refine (unhide H5 W6 G c6 (unhide HND).1).mono ?_
        rintro e W7 ⟨he1, he2, hb7⟩
        have HND7 := hide ((unhide HND).below hb7)
        have HX10 := hide (box_below (unhide HX9) hb7)
        have HB7 : Hid (Below N u W7) := (unhide HB6).trans (hb7.mono (by have := unhide HZ6; omega))
        clear hb7 HND HX9 HB6 HZ6
        by_cases hmc : m.check = 0
        · obtain rfl := he1 hmc
          clear he1 he2
          go_wp2_with (first
            | (with_reducible refine wpList_store_node (by rfl) (.tmp 6) (.tmp 45) (by rfl) (N + 1) true (some ⟨G, 0, none⟩) m.cells.length c6 none 0 0 none 0 0 (by with_unfolding_all rfl) (by with_unfolding_all rfl) (unhide HX10) ?_; intro W8 HX11 HE11; simp only [Act.put])
            | fail)
          have HW8 : Hid (Below N u W8) := by rw [unhide HE11]; exact belowRow (unhide HB7) (Nat.le_succ N) _
          have HND8 : Hid (NdO W8 m G c6) := by
            rw [unhide HE11]
            exact (unhide HND7).setRow (N + 1) _ (by have := unhide HG; omega)
          clear HE11
          go_wp2
          refine bodyPost_ret (results_cell_tmp rfl _ _ (N + 1) 26 #[.bool true, .slice (some ⟨G, 0, none⟩) m.cells.length c6, .slice none 0 0, .slice none 0 0] (0, 0) _ rfl (unhide HX11) nodeUnd rfl nodeInfo) rfl ?_
          exact ⟨_, _, rfl, unhide HP _ _ _ (.inr (.inr (.inr ⟨(by first | trivial | rfl), hk0, hmc, rfl, G, c6, (unhide HBV _ _).symm, (by have := unhide HG; omega), unhide HND8⟩))), unhide HW8⟩
        · obtain rfl := he2 hmc
          clear he1 he2
          generalize m.check = mc at *
          go_wp2_with (first
            | (with_reducible refine wpList_store_node (by rfl) (.tmp 6) (.tmp 45) (by rfl) (N + 1) false none 0 0 none 0 0 none 0 0 (by with_unfolding_all rfl) (by with_unfolding_all rfl) (unhide HX10) ?_; intro W8 HX11 HE11; simp only [Act.put])
            | fail)
          have HW8 : Hid (Below N u W8) := by rw [unhide HE11]; exact belowRow (unhide HB7) (Nat.le_succ N) _
          clear HE11
          go_wp2
          refine bodyPost_ret (results_cell_tmp rfl _ _ (N + 1) 26 #[.bool false, .slice none 0 0, .slice none 0 0, .slice none 0 0] (0, 0) _ rfl (unhide HX11) nodeUnd rfl nodeInfo) rfl ?_
          exact ⟨_, _, rfl, unhide HP _ _ _ (.inr (.inr (.inl ⟨(by first | trivial | rfl), hk0, hmc, rfl, rfl⟩))), unhide HW8⟩
  · clear H2 H3 H5 HTO HTL HNL HBV
    go_enter Try.func35, Try.ntmps35
    go_wp2_with (first
      | (with_reducible refine wpList_box_node (by rfl) (.tmp 0) (by rfl) (some 3) (by rfl) N (unhide HN) _ ca cn cc ka kn kc ga gn gc (by with_unfolding_all rfl) ?_; intro W1 HX1 HW1 HS1; simp only [Act.put, List.setIfInBounds_toArray, List.set_cons_zero, List.set_cons_succ])
      | (with_reducible refine wpList_alloc_node (by rfl) (by rfl) (some 6) (by rfl) (N + 1) (unhide HS1).symm ?_; intro W2 HX2 HW2 HS2; simp only [Act.put, List.setIfInBounds_toArray, List.set_cons_zero, List.set_cons_succ]; have HX3 := hide (((unhide HW2).block N (Nat.lt_succ_self N)).trans (unhide HX1)); obtain ⟨y0, y1, y2, y3⟩ := box4 (unhide HX3))
      | fail)
    have HB2 : Hid (Below N u W2) := (unhide HW1).trans ((unhide HW2).mono (Nat.le_succ N))
    have HZ2 : Hid (N + 2 ≤ W2.heap.size) := by rw [unhide HS2]; exact Nat.le_refl _
    clear HX1 HW1 HS1 HW2 HS2
    refine (unhide H1 _ (unhide HB2)).mono ?_
    rintro e W3 ⟨rfl, hb3⟩
    have HB3 : Hid (Below N u W3) := (unhide HB2).trans (hb3.mono (by have := unhide HZ2; omega))
    have HX5 := hide (box_below (unhide HX3) hb3)
    have HX6 := hide (box_below (unhide HX2) hb3)
    have HZ3 : Hid (N + 2 ≤ W3.heap.size) := Nat.le_trans (unhide HZ2) hb3.size
    clear hb3 y0 y1 y2 y3 HX2 HX3 HB2 HZ2
    obtain ⟨y0, y1, y2, y3⟩ := box4 (unhide HX5)
    go_wp2_with (first
      | (with_reducible refine wpList_store_node (by rfl) (.tmp 6) (.tmp 17) (by rfl) (N + 1) false none 0 0 none 0 0 none 0 0 (by with_unfolding_all rfl) (by with_unfolding_all rfl) (unhide HX6) ?_; intro W6 HX9 HE9; simp only [Act.put])
      | fail)
    have HW6 : Hid (Below N u W6) := by rw [unhide HE9]; exact belowRow (unhide HB3) (Nat.le_succ N) _
    clear HE9
    go_wp2
    refine bodyPost_ret (results_cell_tmp rfl _ _ (N + 1) 26 #[.bool false, .slice none 0 0, .slice none 0 0, .slice none 0 0] (0, 0) _ rfl (unhide HX9) nodeUnd rfl nodeInfo) rfl ?_
    exact ⟨_, _, rfl, unhide HP _ _ _ (.inl ⟨h1, rfl, rfl⟩), unhide HW6⟩
def TakeRO (u w' : World) (n : Nd) (key : ByteArray) (V : Value) (b : Bool) : Prop :=
  (¬ (n.refused true = 0 ∧ n.found key = true) ∧ b = false ∧ V = zeroV) ∨
  ((n.refused true = 0 ∧ n.found key = true) ∧ b = true ∧ ∃ G c, V = (Nv.mk (some ⟨G, 0, none⟩) c none 0 none 0).v (n.take key) ∧ u.heap.size ≤ G ∧ NdO w' (n.take key) G c)
set_option maxRecDepth 100000 in
set_option maxHeartbeats 4000000 in
theorem nTakeO (n : Nd) (a : Nv) (key : ByteArray) (u : World) (h : NdAt u n a) : Calls Try.prog 40 #[a.v n, .string key] u fun e u' => ∃ V b, e = .returned (.tuple #[V, .bool b]) ∧ TakeRO u u' n key V b ∧ Below u.heap.size u u' := by
  have H1 := hide (fun (v : World) (hb : Below u.heap.size u v) => nFind n a key v (h.below hb))
  have H3 : Hid (n.refused true = 0 → n.found key = true → ∀ (v : World), Below u.heap.size u v → Calls Try.prog 86 #[.slice a.ca n.cells.length a.cc, .int .i64 (plc n.cells key : Int), .int .i64 ((plc n.cells key + 1 : Nat) : Int), .slice none 0 0] v fun e u' => ∃ G c, e = .returned (.slice (some ⟨G, 0, none⟩) (n.take key).cells.length c) ∧ v.heap.size ≤ G ∧ NdO u' (n.take key) G c ∧ Below v.heap.size v u') := fun hc hf v hb => by
    have hok := (Nd.refused_zero.1 hc).1
    have hll := hok.lens.1
    obtain ⟨hp, _⟩ := Nd.found_lt hf
    have h3 := nSplC (flatC n.cells) (flatC []) a.ca none n.cells.length a.cc 0 0 (plc n.cells key) (plc n.cells key + 1) v (h.below hb).cells (flatC_len _) (Lies.nil _ _) rfl (flatC_one _) (flatC_one _) h.cap.1 (by omega) (by omega) (by omega) (by decide)
    refine h3.mono ?_
    rintro e w' ⟨G, he, hG, hr, hb'⟩
    have hlen : (n.take key).cells.length = plc n.cells key + 0 + (n.cells.length - (plc n.cells key + 1)) := by
      simp only [Nd.take, List.length_append, List.length_take, List.length_drop]
      omega
    rw [flatC_take, flatC_drop, ← flatC_append, ← flatC_append] at hr
    refine ⟨G, plc n.cells key + 0 + (n.cells.length - (plc n.cells key + 1)), by rw [hlen]; exact he, hG, ⟨⟨Lies.row hr, Lies.nil _ _, Lies.nil _ _, fun k hk => (by cases hk), ⟨by rw [hlen]; omega, by simp [Nd.take], by simp [Nd.take]⟩, fun c hc => ?_, ⟨by rw [hlen]; exact Nat.le_refl _, by simp [Nd.take], by simp [Nd.take]⟩⟩, hr, hlen.symm⟩, hb'⟩
    rcases List.mem_append.1 hc with hc | hc
    · exact h.str c (List.mem_of_mem_take hc)
    · exact h.str c (List.mem_of_mem_drop hc)
  clear h
  have HP : Hid (∀ w' V b, ((¬ (n.refused true = 0 ∧ n.found key = true) ∧ b = false ∧ V = zeroV) ∨ ((n.refused true = 0 ∧ n.found key = true) ∧ b = true ∧ ∃ G c, V = (Nv.mk (some ⟨G, 0, none⟩) c none 0 none 0).v (n.take key) ∧ u.heap.size ≤ G ∧ NdO w' (n.take key) G c)) → TakeRO u w' n key V b) := fun _ _ _ h => h
  have HLF : Hid ((n.take key).leaf = true ∧ (n.take key).keys.length = 0 ∧ (n.take key).kids.length = 0) := ⟨rfl, rfl, rfl⟩
  have HNL := hide (fun hc : n.refused true = 0 => Nat.le_trans (plc_le n.cells key) (Nd.refused_zero.1 hc).1.lens.1)
  obtain ⟨N, hN⟩ : ∃ N, N = u.heap.size := ⟨_, rfl⟩
  have HN := hide hN
  rw [← hN] at H1 H3 HP ⊢
  clear hN
  rw [Nv.v_eq] at H1 ⊢
  obtain ⟨ca, cc, ka, kc, ga, gc⟩ := a
  generalize TakeRO u = PR at *
  generalize n.take key = m at *
  generalize n.found key = fd at *
  generalize plc n.cells key = t at *
  generalize n.refused true = c at *
  generalize n.cells.length = cn at *
  generalize n.keys.length = kn at *
  generalize n.kids.length = gn at *
  generalize n.leaf = l0 at *
  have HBV : Hid (∀ (G c : Nat), (Nv.mk (some ⟨G, 0, none⟩) c none 0 none 0).v m = .agg #[.bool true, .slice (some ⟨G, 0, none⟩) m.cells.length c, .slice none 0 0, .slice none 0 0]) := fun G c => by
    show _ = _
    rw [Nv.v_eq, (unhide HLF).1, (unhide HLF).2.1, (unhide HLF).2.2]
  by_cases h1 : c = 0 ∧ fd = true
  · obtain ⟨h1, h2⟩ := h1
    have hti : (t : Int) ≤ 1992 := by have := unhide HNL h1; omega
    replace H3 := hide (unhide H3 h1 h2)
    subst h1 h2
    clear HNL
    go_enter Try.func40, Try.ntmps40
    go_wp2_with (first
      | (with_reducible refine wpList_box_node (by rfl) (.tmp 0) (by rfl) (some 2) (by rfl) N (unhide HN) _ ca cn cc ka kn kc ga gn gc (by with_unfolding_all rfl) ?_; intro W1 HX1 HW1 HS1; simp only [Act.put, List.setIfInBounds_toArray, List.set_cons_zero, List.set_cons_succ])
      | (with_reducible refine wpList_alloc_node (by rfl) (by rfl) (some 4) (by rfl) (N + 1) (unhide HS1).symm ?_; intro W2 HX2 HW2 HS2; simp only [Act.put, List.setIfInBounds_toArray, List.set_cons_zero, List.set_cons_succ]; have HX3 := hide (((unhide HW2).block N (Nat.lt_succ_self N)).trans (unhide HX1)); obtain ⟨y0, y1, y2, y3⟩ := box4 (unhide HX3))
      | fail)
    have HB2 : Hid (Below N u W2) := (unhide HW1).trans ((unhide HW2).mono (Nat.le_succ N))
    have HZ2 : Hid (N + 2 ≤ W2.heap.size) := by rw [unhide HS2]; exact Nat.le_refl _
    clear HX1 HW1 HS1 HW2 HS2
    refine (unhide H1 _ (unhide HB2)).mono ?_
    rintro e W3 ⟨he1, he2, hb3⟩
    have HB3 : Hid (Below N u W3) := (unhide HB2).trans (hb3.mono (by have := unhide HZ2; omega))
    have HX5 := hide (box_below (unhide HX3) hb3)
    have HX6 := hide (box_below (unhide HX2) hb3)
    have HZ3 : Hid (N + 2 ≤ W3.heap.size) := Nat.le_trans (unhide HZ2) hb3.size
    clear hb3 y0 y1 y2 y3 HX2 HX3 HB2 HZ2
    obtain ⟨y0, y1, y2, y3⟩ := box4 (unhide HX5)
    obtain rfl := he1 (by first | trivial | rfl)
    clear he1 he2
    go_wp2_with fail
    refine (unhide H3 _ (unhide HB3)).mono ?_
    rintro e W6 ⟨G, c6, rfl, hG, hnd, hb6⟩
    have HG : Hid (N + 2 ≤ G) := by
      have : N + 2 ≤ G := by have := unhide HZ3; omega
      exact this
    have HND := hide hnd
    have HX9 := hide (box_below (unhide HX6) hb6)
    have HB6 : Hid (Below N u W6) := (unhide HB3).trans (hb6.mono (by have := unhide HZ3; omega))
    clear hG hnd hb6 HX5 HX6 y0 y1 y2 y3 HB3 HZ3
    go_wp2_with (first
      | (with_reducible refine wpList_store_node (by rfl) (.tmp 4) (.tmp 23) (by rfl) (N + 1) true (some ⟨G, 0, none⟩) m.cells.length c6 none 0 0 none 0 0 (by with_unfolding_all rfl) (by with_unfolding_all rfl) (unhide HX9) ?_; intro W8 HX11 HE11; simp only [Act.put])
      | fail)
    have HW8 : Hid (Below N u W8) := by rw [unhide HE11]; exact belowRow (unhide HB6) (Nat.le_succ N) _
    have HND8 : Hid (NdO W8 m G c6) := by
      rw [unhide HE11]
      exact (unhide HND).setRow (N + 1) _ (by have := unhide HG; omega)
    clear HE11
    go_wp2
    refine bodyPost_ret (results_cell_tmp rfl _ _ (N + 1) 26 #[.bool true, .slice (some ⟨G, 0, none⟩) m.cells.length c6, .slice none 0 0, .slice none 0 0] (0, 0) _ rfl (unhide HX11) nodeUnd rfl nodeInfo) rfl ?_
    exact ⟨_, _, rfl, unhide HP _ _ _ (.inr ⟨⟨(by first | trivial | rfl), (by first | trivial | rfl)⟩, rfl, G, c6, (unhide HBV _ _).symm, (by have := unhide HG; omega), unhide HND8⟩), unhide HW8⟩
  · clear H3 HBV HNL
    go_enter Try.func40, Try.ntmps40
    go_wp2_with (first
      | (with_reducible refine wpList_box_node (by rfl) (.tmp 0) (by rfl) (some 2) (by rfl) N (unhide HN) _ ca cn cc ka kn kc ga gn gc (by with_unfolding_all rfl) ?_; intro W1 HX1 HW1 HS1; simp only [Act.put, List.setIfInBounds_toArray, List.set_cons_zero, List.set_cons_succ])
      | (with_reducible refine wpList_alloc_node (by rfl) (by rfl) (some 4) (by rfl) (N + 1) (unhide HS1).symm ?_; intro W2 HX2 HW2 HS2; simp only [Act.put, List.setIfInBounds_toArray, List.set_cons_zero, List.set_cons_succ]; have HX3 := hide (((unhide HW2).block N (Nat.lt_succ_self N)).trans (unhide HX1)); obtain ⟨y0, y1, y2, y3⟩ := box4 (unhide HX3))
      | fail)
    have HB2 : Hid (Below N u W2) := (unhide HW1).trans ((unhide HW2).mono (Nat.le_succ N))
    have HZ2 : Hid (N + 2 ≤ W2.heap.size) := by rw [unhide HS2]; exact Nat.le_refl _
    clear HX1 HW1 HS1 HW2 HS2
    refine (unhide H1 _ (unhide HB2)).mono ?_
    rintro e W3 ⟨he1, he2, hb3⟩
    have HB3 : Hid (Below N u W3) := (unhide HB2).trans (hb3.mono (by have := unhide HZ2; omega))
    have HX5 := hide (box_below (unhide HX3) hb3)
    have HX6 := hide (box_below (unhide HX2) hb3)
    have HZ3 : Hid (N + 2 ≤ W3.heap.size) := Nat.le_trans (unhide HZ2) hb3.size
    clear hb3 y0 y1 y2 y3 HX2 HX3 HB2 HZ2
    obtain ⟨y0, y1, y2, y3⟩ := box4 (unhide HX5)
    obtain ⟨x, rfl⟩ : ∃ x, e = .returned (.tuple #[.int .i64 x, .bool false]) := by
      by_cases hc : c = 0
      · have hf : fd = false := by
          cases fd
          · rfl
          · exact absurd ⟨hc, rfl⟩ h1
        exact ⟨_, by rw [he1 hc, hf]⟩
      · exact ⟨_, he2 hc⟩
    clear he1 he2
    go_wp2_with (first
      | (with_reducible refine wpList_store_node (by rfl) (.tmp 4) (.tmp 16) (by rfl) (N + 1) false none 0 0 none 0 0 none 0 0 (by with_unfolding_all rfl) (by with_unfolding_all rfl) (unhide HX6) ?_; intro W8 HX11 HE11; simp only [Act.put])
      | fail)
    have HW8 : Hid (Below N u W8) := by rw [unhide HE11]; exact belowRow (unhide HB3) (Nat.le_succ N) _
    clear HE11
    go_wp2
    refine bodyPost_ret (results_cell_tmp rfl _ _ (N + 1) 26 #[.bool false, .slice none 0 0, .slice none 0 0, .slice none 0 0] (0, 0) _ rfl (unhide HX11) nodeUnd rfl nodeInfo) rfl ?_
    exact ⟨_, _, rfl, unhide HP _ _ _ (.inl ⟨h1, rfl, rfl⟩), unhide HW8⟩
end Go.Proofs.Ytppmpomfihalfaa
