/- Nodes: Put. -/
import Derived.Test.YtppmpomfihalfaaNo
namespace Go.Proofs.Ytppmpomfihalfaa
open Go.RowKit

theorem flatC_cons (c : Cl) (l : List Cl) : flatC (c :: l) = .string c.key :: .string c.val :: flatC l := rfl
theorem flatC_append (a b : List Cl) : flatC (a ++ b) = flatC a ++ flatC b := List.flatMap_append ..
theorem flatC_take : ∀ (l : List Cl) (f : Nat), (flatC l).take (f * 2) = flatC (l.take f)
  | [], f => by simp [flatC]
  | c :: l, 0 => by simp [flatC]
  | c :: l, f + 1 => by
    rw [flatC_cons, List.take_succ_cons, flatC_cons, ← flatC_take l f, show (f + 1) * 2 = f * 2 + 1 + 1 by omega]
    rfl
theorem flatC_drop : ∀ (l : List Cl) (f : Nat), (flatC l).drop (f * 2) = flatC (l.drop f)
  | [], f => by simp [flatC]
  | c :: l, 0 => by simp
  | c :: l, f + 1 => by
    rw [flatC_cons, List.drop_succ_cons, ← flatC_drop l f, show (f + 1) * 2 = f * 2 + 1 + 1 by omega]
    rfl
theorem flatC_one (l : List Cl) : ∀ v ∈ flatC l, v.oneCell' = true := by
  intro v hv
  obtain ⟨c, _, hc⟩ := List.mem_flatMap.1 hv
  simp only [Cl.cs, List.mem_cons, List.not_mem_nil, or_false] at hc
  rcases hc with rfl | rfl <;> rfl
theorem Lies.row {w : World} {G : Nat} {xs : List Value} {t : TypeId} (h : w.heap[G]? = some (.cells xs.toArray t (0, 0))) : Lies w (some ⟨G, 0, none⟩) xs := fun _ => ⟨G, 0, rfl, fun j v hv => by
  simp only [World.cell?, h, Nat.zero_add]
  simpa using hv⟩
theorem Lies.setRow {w : World} {ao : Option Addr} {xs : List Value} (h : Lies w ao xs) (g : Nat) (cs : Array Value) (hg : ∀ b o, ao = some ⟨b, o, none⟩ → b ≠ g) : Lies (w.setRow g cs) ao xs := fun h0 => by
  obtain ⟨b, o, h1, h2⟩ := h h0
  refine ⟨b, o, h1, fun j v hv => ?_⟩
  have := h2 j v hv
  unfold World.cell? at this ⊢
  simpa only [heapRow_other w g b cs (hg b o h1)] using this
theorem NdAt.setRow {w : World} {n : Nd} {G c : Nat} (h : NdAt w n ⟨some ⟨G, 0, none⟩, c, none, 0, none, 0⟩) (g : Nat) (cs : Array Value) (hg : G ≠ g) : NdAt (w.setRow g cs) n ⟨some ⟨G, 0, none⟩, c, none, 0, none, 0⟩ :=
  ⟨h.cells.setRow g cs (fun b o e => by cases e; exact hg), h.keys.setRow g cs (fun b o e => by cases e), h.kids.setRow g cs (fun b o e => by cases e), h.kid, h.len, h.str, h.cap⟩
/-- how far a place's cell reaches -/
noncomputable def Nd.to (n : Nd) (key : ByteArray) : Nat := if n.found key then plc n.cells key + 1 else plc n.cells key
noncomputable def Nd.put (n : Nd) (key val : ByteArray) : Nd := ⟨true, n.cells.take (plc n.cells key) ++ (⟨key, val⟩ :: n.cells.drop (n.to key)), [], []⟩
theorem Nd.to_le (n : Nd) (key : ByteArray) : plc n.cells key ≤ n.to key ∧ n.to key ≤ n.cells.length := by
  unfold Nd.to
  split
  · rename_i h
    have : ∃ h : plc n.cells key < n.cells.length, n.cells[plc n.cells key].key = key := of_decide_eq_true h
    obtain ⟨h1, _⟩ := this
    omega
  · exact ⟨Nat.le_refl _, plc_le _ _⟩
/-- the zero node's value -/
def zeroV : Value := .agg #[.bool false, .slice none 0 0, .slice none 0 0, .slice none 0 0]
/-- what Put answers -/
def PutR (u w' : World) (n : Nd) (key val : ByteArray) (V : Value) (E : Int) : Prop :=
  (n.refused true ≠ 0 ∧ E = n.refused true ∧ V = zeroV) ∨ (n.refused true = 0 ∧ key.size = 0 ∧ E = 1 ∧ V = zeroV) ∨
  (n.refused true = 0 ∧ key.size ≠ 0 ∧ (n.put key val).check ≠ 0 ∧ E = (n.put key val).check ∧ V = zeroV) ∨
  (n.refused true = 0 ∧ key.size ≠ 0 ∧ (n.put key val).check = 0 ∧ E = 0 ∧ ∃ G c, V = (Nv.mk (some ⟨G, 0, none⟩) c none 0 none 0).v (n.put key val) ∧ u.heap.size ≤ G ∧ NdAt w' (n.put key val) ⟨some ⟨G, 0, none⟩, c, none, 0, none, 0⟩)
set_option maxRecDepth 100000 in
set_option maxHeartbeats 4000000 in
theorem nPut (n : Nd) (a : Nv) (key val : ByteArray) (hk : key.size ≤ 140737488355328) (hv : val.size ≤ 140737488355328) (u : World) (h : NdAt u n a) : Calls Try.prog 35 #[a.v n, .string key, .string val] u fun e u' => ∃ V E, e = .returned (.tuple #[V, .int .i64 E]) ∧ PutR u u' n key val V E ∧ Below u.heap.size u u' := by
  have H1 := hide (fun (v : World) (hb : Below u.heap.size u v) => nRefused n a true v (h.below hb))
  have H2 : Hid (n.refused true = 0 → ∀ (v : World), Below u.heap.size u v → Calls Try.prog 83 #[.slice a.ca n.cells.length a.cc, .string key] v fun e u' => e = .returned (.tuple #[.int .i64 (plc n.cells key : Int), .bool (n.found key)]) ∧ Below v.heap.size v u') := fun hc v hb => nPlace n.cells key a.ca a.cc v (h.below hb).cells h.len.1 (Nd.refused_zero.1 hc).1.up.1
  have H3 : Hid (n.refused true = 0 → ∀ (v : World) (g c : Nat), Below u.heap.size u v → v.cell? ⟨g, 0, none⟩ = some (.string key) → v.cell? ⟨g, 1, none⟩ = some (.string val) → Calls Try.prog 86 #[.slice a.ca n.cells.length a.cc, .int .i64 (plc n.cells key : Int), .int .i64 (n.to key : Int), .slice (some ⟨g, 0, none⟩) 1 c] v fun e u' => ∃ G c, e = .returned (.slice (some ⟨G, 0, none⟩) (n.put key val).cells.length c) ∧ v.heap.size ≤ G ∧ NdAt u' (n.put key val) ⟨some ⟨G, 0, none⟩, c, none, 0, none, 0⟩ ∧ Below v.heap.size v u') := fun hc v g c hb c0 c1 => by
    have hok := (Nd.refused_zero.1 hc).1
    have hll := hok.lens.1
    have hto := n.to_le key
    have h3 := nSplC (flatC n.cells) (flatC [⟨key, val⟩]) a.ca (some ⟨g, 0, none⟩) n.cells.length a.cc 1 c (plc n.cells key) (n.to key) v (h.below hb).cells (flatC_len _) (fun _ => ⟨g, 0, rfl, fun j x hx => by
      match j, hx with
      | 0, hx => simp [flatC, Cl.cs] at hx; rw [← hx]; exact c0
      | 1, hx => simp [flatC, Cl.cs] at hx; rw [← hx]; exact c1
      | j + 2, hx => simp [flatC, Cl.cs] at hx⟩) rfl (flatC_one _) (flatC_one _) h.cap.1 hto.1 hto.2 (by omega) (by decide)
    refine h3.mono ?_
    rintro e w' ⟨G, he, hG, hr, hb'⟩
    have hlen : (n.put key val).cells.length = plc n.cells key + 1 + (n.cells.length - n.to key) := by
      have := plc_le n.cells key
      simp only [Nd.put, List.length_append, List.length_take, List.length_cons, List.length_drop]
      omega
    rw [flatC_take, flatC_drop, ← flatC_append, ← flatC_append] at hr
    refine ⟨G, plc n.cells key + 1 + (n.cells.length - n.to key), by rw [hlen]; exact he, hG, ⟨Lies.row hr, Lies.nil _ _, Lies.nil _ _, fun k hk => (by cases hk), ⟨by rw [hlen]; omega, by simp [Nd.put], by simp [Nd.put]⟩, fun c hc => ?_, ⟨by rw [hlen]; exact Nat.le_refl _, by simp [Nd.put], by simp [Nd.put]⟩⟩, hb'⟩
    rcases List.mem_append.1 hc with hc | hc
    · exact h.str c (List.mem_of_mem_take hc)
    · rcases List.mem_cons.1 hc with rfl | hc
      · exact ⟨hk, hv⟩
      · exact h.str c (List.mem_of_mem_drop hc)
  have H4 := hide (fun (v : World) (b : Nv) (hv : NdAt v (n.put key val) b) => nChecked (n.put key val) b v hv)
  clear h
  have HP : Hid (∀ w' V E, ((n.refused true ≠ 0 ∧ E = n.refused true ∧ V = zeroV) ∨ (n.refused true = 0 ∧ key.size = 0 ∧ E = 1 ∧ V = zeroV) ∨ (n.refused true = 0 ∧ key.size ≠ 0 ∧ (n.put key val).check ≠ 0 ∧ E = (n.put key val).check ∧ V = zeroV) ∨ (n.refused true = 0 ∧ key.size ≠ 0 ∧ (n.put key val).check = 0 ∧ E = 0 ∧ ∃ G c, V = (Nv.mk (some ⟨G, 0, none⟩) c none 0 none 0).v (n.put key val) ∧ u.heap.size ≤ G ∧ NdAt w' (n.put key val) ⟨some ⟨G, 0, none⟩, c, none, 0, none, 0⟩)) → PutR u w' n key val V E) := fun _ _ _ h => h
  have HTO : Hid (n.to key = if n.found key then plc n.cells key + 1 else plc n.cells key) := rfl
  have HTL := hide (n.to_le key)
  have HNL := hide (fun hc : n.refused true = 0 => (Nd.refused_zero.1 hc).1.lens.1)
  have HLF : Hid ((n.put key val).leaf = true ∧ (n.put key val).keys.length = 0 ∧ (n.put key val).kids.length = 0) := ⟨rfl, rfl, rfl⟩
  obtain ⟨N, hN⟩ : ∃ N, N = u.heap.size := ⟨_, rfl⟩
  have HN := hide hN
  rw [← hN] at H1 H2 H3 HP ⊢
  clear hN
  rw [Nv.v_eq] at H1 ⊢
  obtain ⟨ca, cc, ka, kc, ga, gc⟩ := a
  generalize PutR u = PR at *
  generalize n.put key val = m at *
  generalize n.found key = fd at *
  generalize n.to key = tt at *
  generalize plc n.cells key = t at *
  generalize n.refused true = c at *
  generalize n.cells.length = cn at *
  generalize n.keys.length = kn at *
  generalize n.kids.length = gn at *
  generalize n.leaf = l0 at *
  have HBV : Hid (∀ (G c : Nat), (Nv.mk (some ⟨G, 0, none⟩) c none 0 none 0).v m = .agg #[.bool true, .slice (some ⟨G, 0, none⟩) m.cells.length c, .slice none 0 0, .slice none 0 0]) := fun G c => by
    show _ = _
    rw [Nv.v_eq, (unhide HLF).1, (unhide HLF).2.1, (unhide HLF).2.2]
  have H5 : Hid (∀ (v : World) (G c : Nat), NdAt v m ⟨some ⟨G, 0, none⟩, c, none, 0, none, 0⟩ → Calls Try.prog 87 #[.agg #[.bool true, .slice (some ⟨G, 0, none⟩) m.cells.length c, .slice none 0 0, .slice none 0 0]] v fun e u' => (m.check = 0 → e = .returned (.tuple #[.agg #[.bool true, .slice (some ⟨G, 0, none⟩) m.cells.length c, .slice none 0 0, .slice none 0 0], .int .i64 0])) ∧ (m.check ≠ 0 → e = .returned (.tuple #[.agg #[.bool false, .slice none 0 0, .slice none 0 0, .slice none 0 0], .int .i64 m.check])) ∧ Below v.heap.size v u') := fun v G c hv => by
    have := unhide H4 v _ hv
    rw [unhide HBV] at this
    exact this
  clear H4 hk hv
  by_cases h1 : c = 0
  · replace H2 := hide (unhide H2 h1)
    replace H3 := hide (unhide H3 h1)
    have htn : tt ≤ 1992 := Nat.le_trans (unhide HTL).2 (unhide HNL h1)
    subst h1
    by_cases hk0 : key.size = 0
    · have hkb : (key.toList == []) = true := by simp [empty_list, hk0]
      clear H2 H3 H5 HTO HTL HNL HBV htn
      go_enter Try.func35, Try.ntmps35
      go_wp2_with (first
        | (with_reducible refine wpList_box_node (by rfl) (.tmp 0) (by rfl) (some 3) (by rfl) N (unhide HN) _ ca cn cc ka kn kc ga gn gc (by with_unfolding_all rfl) ?_; intro W1 HX1 HW1 HS1; simp only [Act.put, List.setIfInBounds_toArray, List.set_cons_zero, List.set_cons_succ])
        | (with_reducible refine wpList_alloc_node (by rfl) (by rfl) (some 6) (by rfl) (N + 1) (unhide HS1).symm ?_; intro W2 HX2 HW2 HS2; simp only [Act.put, List.setIfInBounds_toArray, List.set_cons_zero, List.set_cons_succ]; have HX3 := hide (((unhide HW2).block N (Nat.lt_succ_self N)).trans (unhide HX1)); obtain ⟨y0, y1, y2, y3⟩ := box4 (unhide HX3))
        | fail)
      have HB2 : Hid (Below N u W2) := (unhide HW1).trans ((unhide HW2).mono (Nat.le_succ N))
      have HZ2 : Hid (N + 2 ≤ W2.heap.size) := by rw [unhide HS2]; exact Nat.le_refl _
      clear HX1 HW1 HS1 HW2 HS2
      refine (unhide H1 _ (unhide HB2)).mono ?_
      rintro e W3 ⟨rfl, hb3⟩
      have HB3 : Hid (Below N u W3) := (unhide HB2).trans (hb3.mono (by have := unhide HZ2; omega))
      have HX5 := hide (box_below (unhide HX3) hb3)
      have HX6 := hide (box_below (unhide HX2) hb3)
      have HZ3 : Hid (N + 2 ≤ W3.heap.size) := Nat.le_trans (unhide HZ2) hb3.size
      clear hb3 y0 y1 y2 y3 HX2 HX3 HB2 HZ2
      obtain ⟨y0, y1, y2, y3⟩ := box4 (unhide HX5)
      go_wp2_with (first
        | (with_reducible refine wpList_store_node (by rfl) (.tmp 6) (.tmp 21) (by rfl) (N + 1) false none 0 0 none 0 0 none 0 0 (by with_unfolding_all rfl) (by with_unfolding_all rfl) (unhide HX6) ?_; intro W6 HX9 HE9; simp only [Act.put])
        | fail)
      have HW6 : Hid (Below N u W6) := by rw [unhide HE9]; exact belowRow (unhide HB3) (Nat.le_succ N) _
      clear HE9
      go_wp2
      refine bodyPost_ret (results_cell_tmp rfl _ _ (N + 1) 26 #[.bool false, .slice none 0 0, .slice none 0 0, .slice none 0 0] (0, 0) _ rfl (unhide HX9) nodeUnd rfl nodeInfo) rfl ?_
      exact ⟨_, _, rfl, unhide HP _ _ _ (.inr (.inl ⟨(by first | trivial | rfl), hk0, rfl, rfl⟩)), unhide HW6⟩
    · have hkb : (key.toList == []) = false := by simp [empty_list, hk0]
      cases fd
      · obtain rfl : tt = t := unhide HTO
        clear HTO HTL HNL
        go_enter Try.func35, Try.ntmps35
        go_wp2_with (first
          | (with_reducible refine wpList_box_node (by rfl) (.tmp 0) (by rfl) (some 3) (by rfl) N (unhide HN) _ ca cn cc ka kn kc ga gn gc (by with_unfolding_all rfl) ?_; intro W1 HX1 HW1 HS1; simp only [Act.put, List.setIfInBounds_toArray, List.set_cons_zero, List.set_cons_succ])
          | (with_reducible refine wpList_alloc_node (by rfl) (by rfl) (some 6) (by rfl) (N + 1) (unhide HS1).symm ?_; intro W2 HX2 HW2 HS2; simp only [Act.put, List.setIfInBounds_toArray, List.set_cons_zero, List.set_cons_succ]; have HX3 := hide (((unhide HW2).block N (Nat.lt_succ_self N)).trans (unhide HX1)); obtain ⟨y0, y1, y2, y3⟩ := box4 (unhide HX3))
          | fail)
        have HB2 : Hid (Below N u W2) := (unhide HW1).trans ((unhide HW2).mono (Nat.le_succ N))
        have HZ2 : Hid (N + 2 ≤ W2.heap.size) := by rw [unhide HS2]; exact Nat.le_refl _
        clear HX1 HW1 HS1 HW2 HS2
        refine (unhide H1 _ (unhide HB2)).mono ?_
        rintro e W3 ⟨rfl, hb3⟩
        have HB3 : Hid (Below N u W3) := (unhide HB2).trans (hb3.mono (by have := unhide HZ2; omega))
        have HX5 := hide (box_below (unhide HX3) hb3)
        have HX6 := hide (box_below (unhide HX2) hb3)
        have HZ3 : Hid (N + 2 ≤ W3.heap.size) := Nat.le_trans (unhide HZ2) hb3.size
        clear hb3 y0 y1 y2 y3 HX2 HX3 HB2 HZ2
        obtain ⟨y0, y1, y2, y3⟩ := box4 (unhide HX5)
        go_wp2_with fail
        refine (unhide H2 _ (unhide HB3)).mono ?_
        rintro e W4 ⟨rfl, hb4⟩
        have HB4 : Hid (Below N u W4) := (unhide HB3).trans (hb4.mono (by have := unhide HZ3; omega))
        have HX7 := hide (box_below (unhide HX5) hb4)
        have HX8 := hide (box_below (unhide HX6) hb4)
        have HZ4 : Hid (N + 2 ≤ W4.heap.size) := Nat.le_trans (unhide HZ3) hb4.size
        clear hb4 y0 y1 y2 y3 HX5 HX6 HB3 HZ3
        obtain ⟨y0, y1, y2, y3⟩ := box4 (unhide HX7)
        go_wp2_with fail
        have HB5 : Hid (Below N u (W4.alloc (.cells #[.string key, .string val] 66))) := (unhide HB4).alloc (by have := unhide HZ4; omega) _
        refine (unhide H3 _ _ _ (unhide HB5) (by simp [go_sem]) (by simp [go_sem])).mono ?_
        rintro e W6 ⟨G, c6, rfl, hG, hnd, hb6⟩
        have HG : Hid (N + 2 ≤ G) := by
          have : N + 2 ≤ G := by have := unhide HZ4; simp at hG; omega
          exact this
        have HND := hide hnd
        have HX9 := hide (box_below ((Below.heap_alloc W4 _ (N + 1) (by have := unhide HZ4; omega)).trans (unhide HX8)) hb6)
        have HB6 : Hid (Below N u W6) := (unhide HB5).trans (hb6.mono (by have := unhide HZ4; simp; omega))
        have HZ6 : Hid (N + 2 ≤ W6.heap.size) := Nat.le_trans (unhide HZ4) (Nat.le_trans (by simp) hb6.size)
        clear hG hnd hb6 HB5 HX7 HX8 y0 y1 y2 y3 HB4 HZ4
        go_wp2_with fail
        refine (unhide H5 W6 G c6 (unhide HND)).mono ?_
        rintro e W7 ⟨he1, he2, hb7⟩
        have HND7 := hide ((unhide HND).below hb7)
        have HX10 := hide (box_below (unhide HX9) hb7)
        have HB7 : Hid (Below N u W7) := (unhide HB6).trans (hb7.mono (by have := unhide HZ6; omega))
        clear hb7 HND HX9 HB6 HZ6
        by_cases hmc : m.check = 0
        · obtain rfl := he1 hmc
          clear he1 he2
          go_wp2_with (first
            | (with_reducible refine wpList_store_node (by rfl) (.tmp 6) (.tmp 45) (by rfl) (N + 1) true (some ⟨G, 0, none⟩) m.cells.length c6 none 0 0 none 0 0 (by with_unfolding_all rfl) (by with_unfolding_all rfl) (unhide HX10) ?_; intro W8 HX11 HE11; simp only [Act.put])
            | fail)
          have HW8 : Hid (Below N u W8) := by rw [unhide HE11]; exact belowRow (unhide HB7) (Nat.le_succ N) _
          have HND8 : Hid (NdAt W8 m ⟨some ⟨G, 0, none⟩, c6, none, 0, none, 0⟩) := by
            rw [unhide HE11]
            exact (unhide HND7).setRow (N + 1) _ (by have := unhide HG; omega)
          clear HE11
          go_wp2
          refine bodyPost_ret (results_cell_tmp rfl _ _ (N + 1) 26 #[.bool true, .slice (some ⟨G, 0, none⟩) m.cells.length c6, .slice none 0 0, .slice none 0 0] (0, 0) _ rfl (unhide HX11) nodeUnd rfl nodeInfo) rfl ?_
          exact ⟨_, _, rfl, unhide HP _ _ _ (.inr (.inr (.inr ⟨(by first | trivial | rfl), hk0, hmc, rfl, G, c6, (unhide HBV _ _).symm, (by have := unhide HG; omega), unhide HND8⟩))), unhide HW8⟩
        · obtain rfl := he2 hmc
          clear he1 he2
          generalize m.check = mc at *
          go_wp2_with (first
            | (with_reducible refine wpList_store_node (by rfl) (.tmp 6) (.tmp 45) (by rfl) (N + 1) false none 0 0 none 0 0 none 0 0 (by with_unfolding_all rfl) (by with_unfolding_all rfl) (unhide HX10) ?_; intro W8 HX11 HE11; simp only [Act.put])
            | fail)
          have HW8 : Hid (Below N u W8) := by rw [unhide HE11]; exact belowRow (unhide HB7) (Nat.le_succ N) _
          clear HE11
          go_wp2
          refine bodyPost_ret (results_cell_tmp rfl _ _ (N + 1) 26 #[.bool false, .slice none 0 0, .slice none 0 0, .slice none 0 0] (0, 0) _ rfl (unhide HX11) nodeUnd rfl nodeInfo) rfl ?_
          exact ⟨_, _, rfl, unhide HP _ _ _ (.inr (.inr (.inl ⟨(by first | trivial | rfl), hk0, hmc, rfl, rfl⟩))), unhide HW8⟩
      · obtain rfl : tt = t + 1 := unhide HTO
        have hti : (t : Int) ≤ 1992 := by omega
        clear HTO HTL HNL htn
        go_enter Try.func35, Try.ntmps35
        go_wp2_with (first
          | (with_reducible refine wpList_box_node (by rfl) (.tmp 0) (by rfl) (some 3) (by rfl) N (unhide HN) _ ca cn cc ka kn kc ga gn gc (by with_unfolding_all rfl) ?_; intro W1 HX1 HW1 HS1; simp only [Act.put, List.setIfInBounds_toArray, List.set_cons_zero, List.set_cons_succ])
          | (with_reducible refine wpList_alloc_node (by rfl) (by rfl) (some 6) (by rfl) (N + 1) (unhide HS1).symm ?_; intro W2 HX2 HW2 HS2; simp only [Act.put, List.setIfInBounds_toArray, List.set_cons_zero, List.set_cons_succ]; have HX3 := hide (((unhide HW2).block N (Nat.lt_succ_self N)).trans (unhide HX1)); obtain ⟨y0, y1, y2, y3⟩ := box4 (unhide HX3))
          | fail)
        have HB2 : Hid (Below N u W2) := (unhide HW1).trans ((unhide HW2).mono (Nat.le_succ N))
        have HZ2 : Hid (N + 2 ≤ W2.heap.size) := by rw [unhide HS2]; exact Nat.le_refl _
        clear HX1 HW1 HS1 HW2 HS2
        refine (unhide H1 _ (unhide HB2)).mono ?_
        rintro e W3 ⟨rfl, hb3⟩
        have HB3 : Hid (Below N u W3) := (unhide HB2).trans (hb3.mono (by have := unhide HZ2; omega))
        have HX5 := hide (box_below (unhide HX3) hb3)
        have HX6 := hide (box_below (unhide HX2) hb3)
        have HZ3 : Hid (N + 2 ≤ W3.heap.size) := Nat.le_trans (unhide HZ2) hb3.size
        clear hb3 y0 y1 y2 y3 HX2 HX3 HB2 HZ2
        obtain ⟨y0, y1, y2, y3⟩ := box4 (unhide HX5)
        go_wp2_with fail
        refine (unhide H2 _ (unhide HB3)).mono ?_
        rintro e W4 ⟨rfl, hb4⟩
        have HB4 : Hid (Below N u W4) := (unhide HB3).trans (hb4.mono (by have := unhide HZ3; omega))
        have HX7 := hide (box_below (unhide HX5) hb4)
        have HX8 := hide (box_below (unhide HX6) hb4)
        have HZ4 : Hid (N + 2 ≤ W4.heap.size) := Nat.le_trans (unhide HZ3) hb4.size
        clear hb4 y0 y1 y2 y3 HX5 HX6 HB3 HZ3
        obtain ⟨y0, y1, y2, y3⟩ := box4 (unhide HX7)
        go_wp2_with fail
        have HB5 : Hid (Below N u (W4.alloc (.cells #[.string key, .string val] 66))) := (unhide HB4).alloc (by have := unhide HZ4; omega) _
        refine (unhide H3 _ _ _ (unhide HB5) (by simp [go_sem]) (by simp [go_sem])).mono ?_
        rintro e W6 ⟨G, c6, rfl, hG, hnd, hb6⟩
        have HG : Hid (N + 2 ≤ G) := by
          have : N + 2 ≤ G := by have := unhide HZ4; simp at hG; omega
          exact this
        have HND := hide hnd
        have HX9 := hide (box_below ((Below.heap_alloc W4 _ (N + 1) (by have := unhide HZ4; omega)).trans (unhide HX8)) hb6)
        have HB6 : Hid (Below N u W6) := (unhide HB5).trans (hb6.mono (by have := unhide HZ4; simp; omega))
        have HZ6 : Hid (N + 2 ≤ W6.heap.size) := Nat.le_trans (unhide HZ4) (Nat.le_trans (by simp) hb6.size)
        clear hG hnd hb6 HB5 HX7 HX8 y0 y1 y2 y3 HB4 HZ4
        go_wp2_with fail
        refine (unhide H5 W6 G c6 (unhide HND)).mono ?_
        rintro e W7 ⟨he1, he2, hb7⟩
        have HND7 := hide ((unhide HND).below hb7)
        have HX10 := hide (box_below (unhide HX9) hb7)
        have HB7 : Hid (Below N u W7) := (unhide HB6).trans (hb7.mono (by have := unhide HZ6; omega))
        clear hb7 HND HX9 HB6 HZ6
        by_cases hmc : m.check = 0
        · obtain rfl := he1 hmc
          clear he1 he2
          go_wp2_with (first
            | (with_reducible refine wpList_store_node (by rfl) (.tmp 6) (.tmp 45) (by rfl) (N + 1) true (some ⟨G, 0, none⟩) m.cells.length c6 none 0 0 none 0 0 (by with_unfolding_all rfl) (by with_unfolding_all rfl) (unhide HX10) ?_; intro W8 HX11 HE11; simp only [Act.put])
            | fail)
          have HW8 : Hid (Below N u W8) := by rw [unhide HE11]; exact belowRow (unhide HB7) (Nat.le_succ N) _
          have HND8 : Hid (NdAt W8 m ⟨some ⟨G, 0, none⟩, c6, none, 0, none, 0⟩) := by
            rw [unhide HE11]
            exact (unhide HND7).setRow (N + 1) _ (by have := unhide HG; omega)
          clear HE11
          go_wp2
          refine bodyPost_ret (results_cell_tmp rfl _ _ (N + 1) 26 #[.bool true, .slice (some ⟨G, 0, none⟩) m.cells.length c6, .slice none 0 0, .slice none 0 0] (0, 0) _ rfl (unhide HX11) nodeUnd rfl nodeInfo) rfl ?_
          exact ⟨_, _, rfl, unhide HP _ _ _ (.inr (.inr (.inr ⟨(by first | trivial | rfl), hk0, hmc, rfl, G, c6, (unhide HBV _ _).symm, (by have := unhide HG; omega), unhide HND8⟩))), unhide HW8⟩
        · obtain rfl := he2 hmc
          clear he1 he2
          generalize m.check = mc at *
          go_wp2_with (first
            | (with_reducible refine wpList_store_node (by rfl) (.tmp 6) (.tmp 45) (by rfl) (N + 1) false none 0 0 none 0 0 none 0 0 (by with_unfolding_all rfl) (by with_unfolding_all rfl) (unhide HX10) ?_; intro W8 HX11 HE11; simp only [Act.put])
            | fail)
          have HW8 : Hid (Below N u W8) := by rw [unhide HE11]; exact belowRow (unhide HB7) (Nat.le_succ N) _
          clear HE11
          go_wp2
          refine bodyPost_ret (results_cell_tmp rfl _ _ (N + 1) 26 #[.bool false, .slice none 0 0, .slice none 0 0, .slice none 0 0] (0, 0) _ rfl (unhide HX11) nodeUnd rfl nodeInfo) rfl ?_
          exact ⟨_, _, rfl, unhide HP _ _ _ (.inr (.inr (.inl ⟨(by first | trivial | rfl), hk0, hmc, rfl, rfl⟩))), unhide HW8⟩
  · clear H2 H3 H5 HTO HTL HNL HBV
    go_enter Try.func35, Try.ntmps35
    go_wp2_with (first
      | (with_reducible refine wpList_box_node (by rfl) (.tmp 0) (by rfl) (some 3) (by rfl) N (unhide HN) _ ca cn cc ka kn kc ga gn gc (by with_unfolding_all rfl) ?_; intro W1 HX1 HW1 HS1; simp only [Act.put, List.setIfInBounds_toArray, List.set_cons_zero, List.set_cons_succ])
      | (with_reducible refine wpList_alloc_node (by rfl) (by rfl) (some 6) (by rfl) (N + 1) (unhide HS1).symm ?_; intro W2 HX2 HW2 HS2; simp only [Act.put, List.setIfInBounds_toArray, List.set_cons_zero, List.set_cons_succ]; have HX3 := hide (((unhide HW2).block N (Nat.lt_succ_self N)).trans (unhide HX1)); obtain ⟨y0, y1, y2, y3⟩ := box4 (unhide HX3))
      | fail)
    have HB2 : Hid (Below N u W2) := (unhide HW1).trans ((unhide HW2).mono (Nat.le_succ N))
    have HZ2 : Hid (N + 2 ≤ W2.heap.size) := by rw [unhide HS2]; exact Nat.le_refl _
    clear HX1 HW1 HS1 HW2 HS2
    refine (unhide H1 _ (unhide HB2)).mono ?_
    rintro e W3 ⟨rfl, hb3⟩
    have HB3 : Hid (Below N u W3) := (unhide HB2).trans (hb3.mono (by have := unhide HZ2; omega))
    have HX5 := hide (box_below (unhide HX3) hb3)
    have HX6 := hide (box_below (unhide HX2) hb3)
    have HZ3 : Hid (N + 2 ≤ W3.heap.size) := Nat.le_trans (unhide HZ2) hb3.size
    clear hb3 y0 y1 y2 y3 HX2 HX3 HB2 HZ2
    obtain ⟨y0, y1, y2, y3⟩ := box4 (unhide HX5)
    go_wp2_with (first
      | (with_reducible refine wpList_store_node (by rfl) (.tmp 6) (.tmp 17) (by rfl) (N + 1) false none 0 0 none 0 0 none 0 0 (by with_unfolding_all rfl) (by with_unfolding_all rfl) (unhide HX6) ?_; intro W6 HX9 HE9; simp only [Act.put])
      | fail)
    have HW6 : Hid (Below N u W6) := by rw [unhide HE9]; exact belowRow (unhide HB3) (Nat.le_succ N) _
    clear HE9
    go_wp2
    refine bodyPost_ret (results_cell_tmp rfl _ _ (N + 1) 26 #[.bool false, .slice none 0 0, .slice none 0 0, .slice none 0 0] (0, 0) _ rfl (unhide HX9) nodeUnd rfl nodeInfo) rfl ?_
    exact ⟨_, _, rfl, unhide HP _ _ _ (.inl ⟨h1, rfl, rfl⟩), unhide HW6⟩
end Go.Proofs.Ytppmpomfihalfaa
