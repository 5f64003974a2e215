/- Nodes: awake. -/
import Derived.Test.YtppmpomfihalfaaNu
import Derived.Test.YtppmpomfihalfaaNk
namespace Go.Proofs.Ytppmpomfihalfaa
open Go.RowKit

theorem PutR.ok {u w' : World} {n : Nd} {key val : ByteArray} {V : Value} {E : Int} (h : PutR u w' n key val V E) (h1 : n.refused true = 0) (h2 : key.size ≠ 0) (h3 : (n.put key val).check = 0) : E = 0 ∧ ∃ G c, V = (Nv.mk (some ⟨G, 0, none⟩) c none 0 none 0).v (n.put key val) ∧ u.heap.size ≤ G ∧ NdAt w' (n.put key val) ⟨some ⟨G, 0, none⟩, c, none, 0, none, 0⟩ := by
  rcases h with ⟨a, _⟩ | ⟨_, b, _⟩ | ⟨_, _, c, _⟩ | ⟨_, _, _, e, f⟩
  · exact absurd h1 a
  · exact absurd b h2
  · exact absurd h3 c
  · exact ⟨e, f⟩
theorem cell_keep {M : Nat} {W W' : World} (hb : Below M W W') (hM : M = W.heap.size) {p : Addr} {v : Value} (h : W.cell? p = some v) : W'.cell? p = some v := (hb.cell (p := p) (by rw [hM]; exact World.block_lt_of_cell? W _ h)).trans h
def ca1 : Cl := ⟨⟨#[97]⟩, ⟨#[49]⟩⟩
def cc3 : Cl := ⟨⟨#[99]⟩, ⟨#[51]⟩⟩
theorem lt_ac : lt ⟨#[97]⟩ ⟨#[99]⟩ = true := by unfold lt; rw [ByteArray.toList_eq, ByteArray.toList_eq]; decide
theorem leaf1_ok : Nd.Ok ⟨true, [ca1], [], []⟩ := ⟨⟨rfl, rfl⟩, ⟨fun c hc => (by rw [List.mem_singleton.1 hc]; exact ⟨by decide, by decide⟩), fun c hc => (by cases hc)⟩, ⟨fun i hi => (by simp at hi), fun i hi => (by simp at hi)⟩, by decide⟩
theorem leaf2_ok : Nd.Ok ⟨true, [ca1, cc3], [], []⟩ := ⟨⟨rfl, rfl⟩, ⟨fun c hc => (by
    rcases List.mem_cons.1 hc with rfl | hc
    · exact ⟨by decide, by decide⟩
    · rw [List.mem_singleton.1 hc]; exact ⟨by decide, by decide⟩), fun c hc => (by cases hc)⟩, ⟨fun i hi _ => (by
    have : i = 0 := by simp at hi; omega
    subst this
    exact lt_ac), fun i hi => (by simp at hi)⟩, by decide⟩
theorem put_a : Nd.put ⟨true, [], [], []⟩ ⟨#[97]⟩ ⟨#[49]⟩ = ⟨true, [ca1], [], []⟩ := by
  simp [Nd.put, ca1]
theorem found_c : Nd.found ⟨true, [ca1], [], []⟩ ⟨#[99]⟩ = false := by
  unfold Nd.found
  refine decide_eq_false ?_
  rintro ⟨h, _⟩
  simp [plc, List.takeWhile, ca1, lt_ac] at h
theorem put_c : Nd.put ⟨true, [ca1], [], []⟩ ⟨#[99]⟩ ⟨#[51]⟩ = ⟨true, [ca1, cc3], [], []⟩ := by
  have hp : plc [ca1] ⟨#[99]⟩ = 1 := by simp [plc, List.takeWhile, ca1, lt_ac]
  have ht : Nd.to ⟨true, [ca1], [], []⟩ ⟨#[99]⟩ = 1 := by
    unfold Nd.to
    rw [found_c]
    simp [hp]
  unfold Nd.put
  rw [ht]
  show Nd.mk true ([ca1].take (plc [ca1] ⟨#[99]⟩) ++ _) [] [] = _
  rw [hp]
  rfl
def bodyAC : ByteArray := ⟨#[1, 0, 2, 1, 97, 1, 49, 1, 99, 1, 51]⟩
theorem enc_ac : Nd.enc ⟨true, [ca1, cc3], [], []⟩ = (bodyAC, 0) := by
  rw [Nd.enc_ok leaf2_ok (by decide)]
  rfl
theorem dec_0 : W.fixS bodyAC 0 0 1 = (1, 1, 0) := by kernel_rfl
theorem dec_1 : W.fixS bodyAC 1 0 2 = (2, 3, 0) := by kernel_rfl
theorem dec_2 : leafL bodyAC 2 3 0 = ([ca1, cc3], 11, 0) := by kernel_rfl
noncomputable def clF (i : Nat) : Field := (Try.prog.fieldsOf 66).getD i default
theorem clFs : (Try.prog.fieldsOf 66).toList = [clF 0, clF 1] := by kernel_rfl
theorem cnm0 : (clF 0).name ≠ "_" := of_decide_eq_true (by kernel_rfl)
theorem cnm1 : (clF 1).name ≠ "_" := of_decide_eq_true (by kernel_rfl)
section
variable (a b c d : ByteArray) (u : World)
theorem cpt0 : (part (clF 0).type #[.string a, .string b] (clF 0).offset).run Try.prog u = .ok (.string a) u := by kernel_rfl
theorem cpt1 : (part (clF 1).type #[.string a, .string b] (clF 1).offset).run Try.prog u = .ok (.string b) u := by kernel_rfl
theorem ceq0 : (Op.equalIn 9999 (clF 0).type (.string a) (.string b)).run Try.prog u = .ok (a.toList == b.toList) u := run_equalIn_string u 9998 (clF 0).type a b (by kernel_rfl)
theorem ceq1 : (Op.equalIn 9999 (clF 1).type (.string a) (.string b)).run Try.prog u = .ok (a.toList == b.toList) u := run_equalIn_string u 9998 (clF 1).type a b (by kernel_rfl)
theorem ceqFs : (Op.eqFields 9999 #[.string a, .string b] #[.string c, .string d] (Try.prog.fieldsOf 66).toList).run Try.prog u = .ok ((a.toList == c.toList) && (b.toList == d.toList)) u := by
  rw [clFs]
  have h1 : (Op.eqFields 9999 #[.string a, .string b] #[.string c, .string d] [clF 1]).run Try.prog u = .ok (b.toList == d.toList) u := by
    simp only [Op.eqFields, if_pos cnm1, Sem.run_bind, cpt1, ceq1, Result.andThen_ok]
    cases (b.toList == d.toList) <;> simp
  rw [Op.eqFields, if_pos cnm0]
  simp only [Sem.run_bind, cpt0, ceq0, Result.andThen_ok]
  cases (a.toList == c.toList)
  · simp
  · simp only [Bool.not_true, Bool.false_eq_true, if_false, Bool.true_and]
    exact h1
theorem eqlCl : (binOp .eql 66 (.agg #[.string a, .string b]) (.agg #[.string c, .string d])).run Try.prog u = .ok (.bool ((a.toList == c.toList) && (b.toList == d.toList))) u := by
  rw [run_eql_struct, run_equalIn_agg u 9999 66 _ _ (by kernel_rfl) (by kernel_rfl), ceqFs]
  rfl
theorem neqCl : (binOp .neq 66 (.agg #[.string a, .string b]) (.agg #[.string c, .string d])).run Try.prog u = .ok (.bool (!((a.toList == c.toList) && (b.toList == d.toList)))) u := by
  rw [run_neq_struct, run_equalIn_agg u 9999 66 _ _ (by kernel_rfl) (by kernel_rfl), ceqFs]
  rfl
end
set_option maxRecDepth 100000 in
set_option maxHeartbeats 4000000 in
theorem nAwake (w : World) : Calls Try.prog 60 #[] w fun e w' => e = .returned (.bool true) ∧ Below w.heap.size w w' := by
  have H1 : Hid (∀ v : World, Calls Try.prog 35 #[.agg #[.bool true, .slice none 0 0, .slice none 0 0, .slice none 0 0], .string ⟨#[97]⟩, .string ⟨#[49]⟩] v fun e u' => ∃ G c, e = .returned (.tuple #[.agg #[.bool true, .slice (some ⟨G, 0, none⟩) 1 c, .slice none 0 0, .slice none 0 0], .int .i64 0]) ∧ NdAt u' ⟨true, [ca1], [], []⟩ ⟨some ⟨G, 0, none⟩, c, none, 0, none, 0⟩ ∧ Below v.heap.size v u') := fun v => by
    refine (nPut ⟨true, [], [], []⟩ ⟨none, 0, none, 0, none, 0⟩ ⟨#[97]⟩ ⟨#[49]⟩ (by decide) (by decide) v (NdAt.none v)).mono ?_
    rintro e w' ⟨V, E, he, hp, hb⟩
    obtain ⟨hE, G, c, hV, _, hn⟩ := hp.ok (Nd.refused_zero.2 ⟨emptyLeaf_ok, rfl⟩) (by decide) (by rw [put_a]; exact Nd.check_zero.2 leaf1_ok)
    rw [put_a] at hV hn
    exact ⟨G, c, by rw [he, hE, hV]; rfl, hn, hb⟩
  have H2 : Hid (∀ (v : World) (G c : Nat), NdAt v ⟨true, [ca1], [], []⟩ ⟨some ⟨G, 0, none⟩, c, none, 0, none, 0⟩ → Calls Try.prog 35 #[.agg #[.bool true, .slice (some ⟨G, 0, none⟩) 1 c, .slice none 0 0, .slice none 0 0], .string ⟨#[99]⟩, .string ⟨#[51]⟩] v fun e u' => ∃ G c, e = .returned (.tuple #[.agg #[.bool true, .slice (some ⟨G, 0, none⟩) 2 c, .slice none 0 0, .slice none 0 0], .int .i64 0]) ∧ NdAt u' ⟨true, [ca1, cc3], [], []⟩ ⟨some ⟨G, 0, none⟩, c, none, 0, none, 0⟩ ∧ Below v.heap.size v u') := fun v G c hv => by
    refine (nPut ⟨true, [ca1], [], []⟩ ⟨some ⟨G, 0, none⟩, c, none, 0, none, 0⟩ ⟨#[99]⟩ ⟨#[51]⟩ (by decide) (by decide) v hv).mono ?_
    rintro e w' ⟨V, E, he, hp, hb⟩
    obtain ⟨hE, G, c, hV, _, hn⟩ := hp.ok (Nd.refused_zero.2 ⟨leaf1_ok, rfl⟩) (by decide) (by rw [put_c]; exact Nd.check_zero.2 leaf2_ok)
    rw [put_c] at hV hn
    exact ⟨G, c, by rw [he, hE, hV]; rfl, hn, hb⟩
  have H3 : Hid (∀ (v : World) (G c : Nat), NdAt v ⟨true, [ca1, cc3], [], []⟩ ⟨some ⟨G, 0, none⟩, c, none, 0, none, 0⟩ → Calls Try.prog 17 #[.agg #[.bool true, .slice (some ⟨G, 0, none⟩) 2 c, .slice none 0 0, .slice none 0 0]] v fun e u' => e = .returned (.tuple #[.string bodyAC, .int .i64 0]) ∧ Below v.heap.size v u') := fun v G c hv => by
    have := nEncode _ _ v hv
    rw [enc_ac] at this
    exact this
  have H4 : Hid (∀ v : World, Calls Try.prog 26 #[.string bodyAC] v fun e u' => ∃ ao c, e = .returned (.tuple #[.agg #[.bool true, .slice ao 2 c, .slice none 0 0, .slice none 0 0], .int .i64 0]) ∧ NdAt u' ⟨true, [ca1, cc3], [], []⟩ ⟨ao, c, none, 0, none, 0⟩ ∧ Below v.heap.size v u') := fun v => nDecodeLeaf bodyAC (by decide) dec_0 2 3 0 dec_1 [ca1, cc3] 11 0 dec_2 (by decide) leaf2_ok v
  have hbs : bodyAC.size = 11 := rfl
  obtain ⟨B, hB⟩ : ∃ B, B = w.heap.size := ⟨_, rfl⟩
  have HB := hide hB
  rw [← hB]
  clear hB
  generalize bodyAC = bd at *
  have hbi : (bd.size : Int) = 11 := by omega
  go_enter Try.func60, Try.ntmps60
  go_wp2_with fail
  refine (unhide H1 _).mono ?_
  rintro e W1 ⟨G1, c1, rfl, hn1, hb1⟩
  have HN1 := hide hn1
  rw [← unhide HB] at hb1
  have HW1 := hide hb1
  obtain ⟨M1, hM1⟩ : ∃ M, M = W1.heap.size := ⟨_, rfl⟩
  have HM1 := hide hM1
  clear hn1 hb1 hM1 H1
  go_wp2_with (first
    | (with_reducible refine wpList_alloc_node (by rfl) (by rfl) (some 1) (by rfl) M1 (unhide HM1) ?_; intro W2 HX2 HW2 HS2; simp only [Act.put, List.setIfInBounds_toArray, List.set_cons_zero, List.set_cons_succ])
    | (with_reducible refine wpList_store_node (by rfl) (.tmp 1) (.tmp 12) (by rfl) M1 true (some ⟨G1, 0, none⟩) 1 c1 none 0 0 none 0 0 (by with_unfolding_all rfl) (by with_unfolding_all rfl) (unhide HX2) ?_; intro W3 HX3 HE3; simp only [Act.put]; obtain ⟨y0, y1, y2, y3⟩ := box4 (unhide HX3))
    | fail)
  have HB3 : Hid (Below M1 W1 W3 ∧ B ≤ M1) := ⟨by rw [unhide HE3]; exact belowRow (unhide HW2) (Nat.le_refl _) _, by rw [unhide HM1, unhide HB]; exact (unhide HW1).size⟩
  have HN3 : Hid (NdAt W3 ⟨true, [ca1], [], []⟩ ⟨some ⟨G1, 0, none⟩, c1, none, 0, none, 0⟩ ∧ Below B w W3 ∧ B ≤ W3.heap.size) := ⟨(unhide HN1).below (by rw [← unhide HM1]; exact (unhide HB3).1), (unhide HW1).trans ((unhide HB3).1.mono (unhide HB3).2), by have := (unhide HB3).1.size; have := unhide HM1; have := (unhide HB3).2; omega⟩
  clear HX2 HW2 HS2 HE3 HB3 HN1 HW1 HM1
  refine (unhide H2 W3 G1 c1 (unhide HN3).1).mono ?_
  rintro e W4 ⟨G2, c2, rfl, hn4, hb4⟩
  have HN4 : Hid (NdAt W4 ⟨true, [ca1, cc3], [], []⟩ ⟨some ⟨G2, 0, none⟩, c2, none, 0, none, 0⟩ ∧ Below B w W4 ∧ B ≤ W4.heap.size) := ⟨hn4, (unhide HN3).2.1.trans (hb4.mono (unhide HN3).2.2), Nat.le_trans (unhide HN3).2.2 hb4.size⟩
  obtain ⟨M2, hM2⟩ : ∃ M, M = W4.heap.size := ⟨_, rfl⟩
  have HM2 := hide hM2
  clear hn4 hb4 hM2 H2 HN3 HX3 y0 y1 y2 y3
  go_wp2_with (first
    | (with_reducible refine wpList_alloc_node (by rfl) (by rfl) (some 3) (by rfl) M2 (unhide HM2) ?_; intro W5 HX5 HW5 HS5; simp only [Act.put, List.setIfInBounds_toArray, List.set_cons_zero, List.set_cons_succ])
    | (with_reducible refine wpList_store_node (by rfl) (.tmp 3) (.tmp 17) (by rfl) M2 true (some ⟨G2, 0, none⟩) 2 c2 none 0 0 none 0 0 (by with_unfolding_all rfl) (by with_unfolding_all rfl) (unhide HX5) ?_; intro W6 HX6 HE6; simp only [Act.put]; obtain ⟨y0, y1, y2, y3⟩ := box4 (unhide HX6))
    | fail)
  have HB6 : Hid (Below M2 W4 W6 ∧ B ≤ M2) := ⟨by rw [unhide HE6]; exact belowRow (unhide HW5) (Nat.le_refl _) _, by rw [unhide HM2]; exact (unhide HN4).2.2⟩
  have HN6 : Hid (NdAt W6 ⟨true, [ca1, cc3], [], []⟩ ⟨some ⟨G2, 0, none⟩, c2, none, 0, none, 0⟩ ∧ Below B w W6 ∧ B ≤ W6.heap.size) := ⟨(unhide HN4).1.below (by rw [← unhide HM2]; exact (unhide HB6).1), (unhide HN4).2.1.trans ((unhide HB6).1.mono (unhide HB6).2), by have := (unhide HB6).1.size; have := unhide HM2; have := (unhide HB6).2; omega⟩
  clear HX5 HW5 HS5 HE6 HB6 HN4 HM2
  refine (unhide H3 W6 G2 c2 (unhide HN6).1).mono ?_
  rintro e W7 ⟨rfl, hb7⟩
  have HN7 : Hid (Below B w W7 ∧ B ≤ W7.heap.size) := ⟨(unhide HN6).2.1.trans (hb7.mono (unhide HN6).2.2), Nat.le_trans (unhide HN6).2.2 hb7.size⟩
  clear hb7 H3 HN6 HX6 y0 y1 y2 y3
  go_wp2_with fail
  refine (unhide H4 W7).mono ?_
  rintro e W8 ⟨ao, c3, rfl, hn8, hb8⟩
  obtain ⟨g, o, hao, hk, hv⟩ := hn8.cells.cl (i := 1) (by decide)
  have hao : ao = some ⟨g, o, none⟩ := hao
  subst hao
  have hix : ∀ W : World, (Instr.indexAt 22 (.slice (some ⟨g, o, none⟩) 2 c3) (.int .i64 1)).run Try.prog W = .ok (.pointer (some ⟨g, o + 1 * 2, none⟩)) W := fun W => ixCells g o 2 c3 1 (by decide) W
  have hk : W8.cell? ⟨g, o + 1 * 2, none⟩ = some (.string ⟨#[99]⟩) := hk
  have hv : W8.cell? ⟨g, o + 1 * 2 + 1, none⟩ = some (.string ⟨#[51]⟩) := hv
  have HKV := hide (And.intro hk hv)
  have HN8 : Hid (Below B w W8 ∧ B ≤ W8.heap.size) := ⟨(unhide HN7).1.trans (hb8.mono (unhide HN7).2), Nat.le_trans (unhide HN7).2 hb8.size⟩
  obtain ⟨M3, hM3⟩ : ∃ M, M = W8.heap.size := ⟨_, rfl⟩
  have HM3 := hide hM3
  clear hn8 hb8 hM3 H4 HN7 hk hv
  generalize o + 1 * 2 = j at *
  go_wp2_with (first
    | (with_reducible refine wpList_alloc_node (by rfl) (by rfl) (some 7) (by rfl) M3 (unhide HM3) ?_; intro W9 HX9 HW9 HS9; simp only [Act.put, List.setIfInBounds_toArray, List.set_cons_zero, List.set_cons_succ])
    | ((with_reducible refine wpList_store_node (by rfl) (.tmp 7) (.tmp 27) (by rfl) M3 true (some ⟨g, o, none⟩) 2 c3 none 0 0 none 0 0 (by with_unfolding_all rfl) (by with_unfolding_all rfl) (unhide HX9) ?_); intro W10 HX10 HE10; simp only [Act.put]; obtain ⟨y0, y1, y2, y3⟩ := box4 (unhide HX10); have HB10 : Hid (Below M3 W8 W10) := (by rw [unhide HE10]; exact belowRow (unhide HW9) (Nat.le_refl _) _); have z0 := cell_keep (unhide HB10) (unhide HM3) (unhide HKV).1; have z1 := cell_keep (unhide HB10) (unhide HM3) (unhide HKV).2; have heq := eqlCl ⟨#[99]⟩ ⟨#[51]⟩ ⟨#[99]⟩ ⟨#[51]⟩)
    | fail)
  go_ret
  exact ⟨rfl, (unhide HN8).1.trans ((unhide HB10).mono (by rw [unhide HM3]; exact (unhide HN8).2))⟩
end Go.Proofs.Ytppmpomfihalfaa
