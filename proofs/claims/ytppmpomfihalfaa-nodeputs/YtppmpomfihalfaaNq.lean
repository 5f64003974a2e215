/- Nodes: Take. -/
import Derived.Test.YtppmpomfihalfaaNp
namespace Go.Proofs.Ytppmpomfihalfaa
open Go.RowKit

def Nd.take (n : Nd) (key : ByteArray) : Nd := ⟨true, n.cells.take (plc n.cells key) ++ n.cells.drop (plc n.cells key + 1), [], []⟩
def TakeR (u w' : World) (n : Nd) (key : ByteArray) (V : Value) (b : Bool) : Prop :=
  (¬ (n.refused true = 0 ∧ n.found key = true) ∧ b = false ∧ V = zeroV) ∨
  ((n.refused true = 0 ∧ n.found key = true) ∧ b = true ∧ ∃ G c, V = (Nv.mk (some ⟨G, 0, none⟩) c none 0 none 0).v (n.take key) ∧ u.heap.size ≤ G ∧ NdAt w' (n.take key) ⟨some ⟨G, 0, none⟩, c, none, 0, none, 0⟩)
theorem Nd.found_lt {n : Nd} {key : ByteArray} (h : n.found key = true) : ∃ h : plc n.cells key < n.cells.length, n.cells[plc n.cells key].key = key := of_decide_eq_true h
set_option maxRecDepth 100000 in
set_option maxHeartbeats 4000000 in
theorem nTake (n : Nd) (a : Nv) (key : ByteArray) (u : World) (h : NdAt u n a) : Calls Try.prog 40 #[a.v n, .string key] u fun e u' => ∃ V b, e = .returned (.tuple #[V, .bool b]) ∧ TakeR u u' n key V b ∧ Below u.heap.size u u' := by
  have H1 := hide (fun (v : World) (hb : Below u.heap.size u v) => nFind n a key v (h.below hb))
  have H3 : Hid (n.refused true = 0 → n.found key = true → ∀ (v : World), Below u.heap.size u v → Calls Try.prog 86 #[.slice a.ca n.cells.length a.cc, .int .i64 (plc n.cells key : Int), .int .i64 ((plc n.cells key + 1 : Nat) : Int), .slice none 0 0] v fun e u' => ∃ G c, e = .returned (.slice (some ⟨G, 0, none⟩) (n.take key).cells.length c) ∧ v.heap.size ≤ G ∧ NdAt u' (n.take key) ⟨some ⟨G, 0, none⟩, c, none, 0, none, 0⟩ ∧ Below v.heap.size v u') := fun hc hf v hb => by
    have hok := (Nd.refused_zero.1 hc).1
    have hll := hok.lens.1
    obtain ⟨hp, _⟩ := Nd.found_lt hf
    have h3 := nSplC (flatC n.cells) (flatC []) a.ca none n.cells.length a.cc 0 0 (plc n.cells key) (plc n.cells key + 1) v (h.below hb).cells (flatC_len _) (Lies.nil _ _) rfl (flatC_one _) (flatC_one _) h.cap.1 (by omega) (by omega) (by omega) (by decide)
    refine h3.mono ?_
    rintro e w' ⟨G, he, hG, hr, hb'⟩
    have hlen : (n.take key).cells.length = plc n.cells key + 0 + (n.cells.length - (plc n.cells key + 1)) := by
      simp only [Nd.take, List.length_append, List.length_take, List.length_drop]
      omega
    rw [flatC_take, flatC_drop, ← flatC_append, ← flatC_append] at hr
    refine ⟨G, plc n.cells key + 0 + (n.cells.length - (plc n.cells key + 1)), by rw [hlen]; exact he, hG, ⟨Lies.row hr, Lies.nil _ _, Lies.nil _ _, fun k hk => (by cases hk), ⟨by rw [hlen]; omega, by simp [Nd.take], by simp [Nd.take]⟩, fun c hc => ?_, ⟨by rw [hlen]; exact Nat.le_refl _, by simp [Nd.take], by simp [Nd.take]⟩⟩, hb'⟩
    rcases List.mem_append.1 hc with hc | hc
    · exact h.str c (List.mem_of_mem_take hc)
    · exact h.str c (List.mem_of_mem_drop hc)
  clear h
  have HP : Hid (∀ w' V b, ((¬ (n.refused true = 0 ∧ n.found key = true) ∧ b = false ∧ V = zeroV) ∨ ((n.refused true = 0 ∧ n.found key = true) ∧ b = true ∧ ∃ G c, V = (Nv.mk (some ⟨G, 0, none⟩) c none 0 none 0).v (n.take key) ∧ u.heap.size ≤ G ∧ NdAt w' (n.take key) ⟨some ⟨G, 0, none⟩, c, none, 0, none, 0⟩)) → TakeR u w' n key V b) := fun _ _ _ h => h
  have HLF : Hid ((n.take key).leaf = true ∧ (n.take key).keys.length = 0 ∧ (n.take key).kids.length = 0) := ⟨rfl, rfl, rfl⟩
  have HNL := hide (fun hc : n.refused true = 0 => Nat.le_trans (plc_le n.cells key) (Nd.refused_zero.1 hc).1.lens.1)
  obtain ⟨N, hN⟩ : ∃ N, N = u.heap.size := ⟨_, rfl⟩
  have HN := hide hN
  rw [← hN] at H1 H3 HP ⊢
  clear hN
  rw [Nv.v_eq] at H1 ⊢
  obtain ⟨ca, cc, ka, kc, ga, gc⟩ := a
  generalize TakeR u = PR at *
  generalize n.take key = m at *
  generalize n.found key = fd at *
  generalize plc n.cells key = t at *
  generalize n.refused true = c at *
  generalize n.cells.length = cn at *
  generalize n.keys.length = kn at *
  generalize n.kids.length = gn at *
  generalize n.leaf = l0 at *
  have HBV : Hid (∀ (G c : Nat), (Nv.mk (some ⟨G, 0, none⟩) c none 0 none 0).v m = .agg #[.bool true, .slice (some ⟨G, 0, none⟩) m.cells.length c, .slice none 0 0, .slice none 0 0]) := fun G c => by
    show _ = _
    rw [Nv.v_eq, (unhide HLF).1, (unhide HLF).2.1, (unhide HLF).2.2]
  by_cases h1 : c = 0 ∧ fd = true
  · obtain ⟨h1, h2⟩ := h1
    have hti : (t : Int) ≤ 1992 := by have := unhide HNL h1; omega
    replace H3 := hide (unhide H3 h1 h2)
    subst h1 h2
    clear HNL
    go_enter Try.func40, Try.ntmps40
    go_wp2_with (first
      | (with_reducible refine wpList_box_node (by rfl) (.tmp 0) (by rfl) (some 2) (by rfl) N (unhide HN) _ ca cn cc ka kn kc ga gn gc (by with_unfolding_all rfl) ?_; intro W1 HX1 HW1 HS1; simp only [Act.put, List.setIfInBounds_toArray, List.set_cons_zero, List.set_cons_succ])
      | (with_reducible refine wpList_alloc_node (by rfl) (by rfl) (some 4) (by rfl) (N + 1) (unhide HS1).symm ?_; intro W2 HX2 HW2 HS2; simp only [Act.put, List.setIfInBounds_toArray, List.set_cons_zero, List.set_cons_succ]; have HX3 := hide (((unhide HW2).block N (Nat.lt_succ_self N)).trans (unhide HX1)); obtain ⟨y0, y1, y2, y3⟩ := box4 (unhide HX3))
      | fail)
    have HB2 : Hid (Below N u W2) := (unhide HW1).trans ((unhide HW2).mono (Nat.le_succ N))
    have HZ2 : Hid (N + 2 ≤ W2.heap.size) := by rw [unhide HS2]; exact Nat.le_refl _
    clear HX1 HW1 HS1 HW2 HS2
    refine (unhide H1 _ (unhide HB2)).mono ?_
    rintro e W3 ⟨he1, he2, hb3⟩
    have HB3 : Hid (Below N u W3) := (unhide HB2).trans (hb3.mono (by have := unhide HZ2; omega))
    have HX5 := hide (box_below (unhide HX3) hb3)
    have HX6 := hide (box_below (unhide HX2) hb3)
    have HZ3 : Hid (N + 2 ≤ W3.heap.size) := Nat.le_trans (unhide HZ2) hb3.size
    clear hb3 y0 y1 y2 y3 HX2 HX3 HB2 HZ2
    obtain ⟨y0, y1, y2, y3⟩ := box4 (unhide HX5)
    obtain rfl := he1 (by first | trivial | rfl)
    clear he1 he2
    go_wp2_with fail
    refine (unhide H3 _ (unhide HB3)).mono ?_
    rintro e W6 ⟨G, c6, rfl, hG, hnd, hb6⟩
    have HG : Hid (N + 2 ≤ G) := by
      have : N + 2 ≤ G := by have := unhide HZ3; omega
      exact this
    have HND := hide hnd
    have HX9 := hide (box_below (unhide HX6) hb6)
    have HB6 : Hid (Below N u W6) := (unhide HB3).trans (hb6.mono (by have := unhide HZ3; omega))
    clear hG hnd hb6 HX5 HX6 y0 y1 y2 y3 HB3 HZ3
    go_wp2_with (first
      | (with_reducible refine wpList_store_node (by rfl) (.tmp 4) (.tmp 23) (by rfl) (N + 1) true (some ⟨G, 0, none⟩) m.cells.length c6 none 0 0 none 0 0 (by with_unfolding_all rfl) (by with_unfolding_all rfl) (unhide HX9) ?_; intro W8 HX11 HE11; simp only [Act.put])
      | fail)
    have HW8 : Hid (Below N u W8) := by rw [unhide HE11]; exact belowRow (unhide HB6) (Nat.le_succ N) _
    have HND8 : Hid (NdAt W8 m ⟨some ⟨G, 0, none⟩, c6, none, 0, none, 0⟩) := by
      rw [unhide HE11]
      exact (unhide HND).setRow (N + 1) _ (by have := unhide HG; omega)
    clear HE11
    go_wp2
    refine bodyPost_ret (results_cell_tmp rfl _ _ (N + 1) 26 #[.bool true, .slice (some ⟨G, 0, none⟩) m.cells.length c6, .slice none 0 0, .slice none 0 0] (0, 0) _ rfl (unhide HX11) nodeUnd rfl nodeInfo) rfl ?_
    exact ⟨_, _, rfl, unhide HP _ _ _ (.inr ⟨⟨(by first | trivial | rfl), (by first | trivial | rfl)⟩, rfl, G, c6, (unhide HBV _ _).symm, (by have := unhide HG; omega), unhide HND8⟩), unhide HW8⟩
  · clear H3 HBV HNL
    go_enter Try.func40, Try.ntmps40
    go_wp2_with (first
      | (with_reducible refine wpList_box_node (by rfl) (.tmp 0) (by rfl) (some 2) (by rfl) N (unhide HN) _ ca cn cc ka kn kc ga gn gc (by with_unfolding_all rfl) ?_; intro W1 HX1 HW1 HS1; simp only [Act.put, List.setIfInBounds_toArray, List.set_cons_zero, List.set_cons_succ])
      | (with_reducible refine wpList_alloc_node (by rfl) (by rfl) (some 4) (by rfl) (N + 1) (unhide HS1).symm ?_; intro W2 HX2 HW2 HS2; simp only [Act.put, List.setIfInBounds_toArray, List.set_cons_zero, List.set_cons_succ]; have HX3 := hide (((unhide HW2).block N (Nat.lt_succ_self N)).trans (unhide HX1)); obtain ⟨y0, y1, y2, y3⟩ := box4 (unhide HX3))
      | fail)
    have HB2 : Hid (Below N u W2) := (unhide HW1).trans ((unhide HW2).mono (Nat.le_succ N))
    have HZ2 : Hid (N + 2 ≤ W2.heap.size) := by rw [unhide HS2]; exact Nat.le_refl _
    clear HX1 HW1 HS1 HW2 HS2
    refine (unhide H1 _ (unhide HB2)).mono ?_
    rintro e W3 ⟨he1, he2, hb3⟩
    have HB3 : Hid (Below N u W3) := (unhide HB2).trans (hb3.mono (by have := unhide HZ2; omega))
    have HX5 := hide (box_below (unhide HX3) hb3)
    have HX6 := hide (box_below (unhide HX2) hb3)
    have HZ3 : Hid (N + 2 ≤ W3.heap.size) := Nat.le_trans (unhide HZ2) hb3.size
    clear hb3 y0 y1 y2 y3 HX2 HX3 HB2 HZ2
    obtain ⟨y0, y1, y2, y3⟩ := box4 (unhide HX5)
    obtain ⟨x, rfl⟩ : ∃ x, e = .returned (.tuple #[.int .i64 x, .bool false]) := by
      by_cases hc : c = 0
      · have hf : fd = false := by
          cases fd
          · rfl
          · exact absurd ⟨hc, rfl⟩ h1
        exact ⟨_, by rw [he1 hc, hf]⟩
      · exact ⟨_, he2 hc⟩
    clear he1 he2
    go_wp2_with (first
      | (with_reducible refine wpList_store_node (by rfl) (.tmp 4) (.tmp 16) (by rfl) (N + 1) false none 0 0 none 0 0 none 0 0 (by with_unfolding_all rfl) (by with_unfolding_all rfl) (unhide HX6) ?_; intro W8 HX11 HE11; simp only [Act.put])
      | fail)
    have HW8 : Hid (Below N u W8) := by rw [unhide HE11]; exact belowRow (unhide HB3) (Nat.le_succ N) _
    clear HE11
    go_wp2
    refine bodyPost_ret (results_cell_tmp rfl _ _ (N + 1) 26 #[.bool false, .slice none 0 0, .slice none 0 0, .slice none 0 0] (0, 0) _ rfl (unhide HX11) nodeUnd rfl nodeInfo) rfl ?_
    exact ⟨_, _, rfl, unhide HP _ _ _ (.inl ⟨h1, rfl, rfl⟩), unhide HW8⟩
end Go.Proofs.Ytppmpomfihalfaa
