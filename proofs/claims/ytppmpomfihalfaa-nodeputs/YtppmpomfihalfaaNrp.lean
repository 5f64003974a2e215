/- What came in: a node. -/
import Derived.Test.YtppmpomfihalfaaNrh
import Derived.Test.YtppmpomfihalfaaHallB
import Derived.Deep.Slices
namespace Go.Proofs.Ytppmpomfihalfaa
open Go.ChangeShapes Go.WideShapes Go.ChangeAt Go.RowKit Go.Deep

section
variable {H : Type} {enc : TypeId × Value → H} {W : World}
theorem choose_node {α : Type} (p : Nat → α → Prop) (n : Nat) (hp : ∀ i, i < n → ∃ x, p i x) : ∃ l : List α, l.length = n ∧ ∀ (j : Nat) (hj : j < l.length), p j l[j] := by
  induction n with
  | zero => exact ⟨[], rfl, by intro j hj; simp at hj⟩
  | succ k ih =>
    obtain ⟨l, hl, hi⟩ := ih (fun i hi => hp i (by omega))
    obtain ⟨x, hx⟩ := hp k (by omega)
    refine ⟨l ++ [x], by simp [hl], fun j hj => ?_⟩
    by_cases hjk : j < l.length
    · rw [List.getElem_append_left hjk]; exact hi j hjk
    · have e : j = k := by simp [hl] at hj; omega
      subst e
      rw [List.getElem_append_right (by omega)]
      simpa [hl] using hx
theorem cBooN : Try.prog.cellsOf 4 = 1 := by kernel_rfl
theorem cStrN : Try.prog.cellsOf 9 = 1 := by kernel_rfl
theorem weights_nd {P : Program} {e : TypeId} : ∀ {l : List (DataW H)} {d : DataW H} {n : Nat}, d ∈ l → n ∈ d.weights P e → n ∈ DataW.weightsAll P e l
  | [], _, _, h, _ => by cases h
  | x :: r, d, n, h, hn => by
    simp only [DataW.weightsAll, List.mem_append]
    rcases List.mem_cons.1 h with rfl | h
    · exact .inl hn
    · exact .inr (weights_nd h hn)
theorem cCell : Try.prog.cellsOf 66 = 2 := by kernel_rfl
theorem cU32 : Try.prog.cellsOf 50 = 1 := by kernel_rfl
theorem cCells : Try.prog.cellsOf 22 = 1 := by kernel_rfl
theorem cStrs : Try.prog.cellsOf 23 = 1 := by kernel_rfl
theorem cKids : Try.prog.cellsOf 24 = 1 := by kernel_rfl
theorem cNode : Try.prog.cellsOf 26 = 4 := by kernel_rfl
theorem bCell : Try.prog.bytesOf 66 = 32 := by kernel_rfl
theorem bStr : Try.prog.bytesOf 9 = 16 := by kernel_rfl
theorem bU32 : Try.prog.bytesOf 50 = 4 := by kernel_rfl
set_option maxRecDepth 100000 in
theorem open_cell_cells {fuel : Nat} {cs : List Value} {x : DataW H × List MemPlace} (h : DataW.trod enc Try.prog W 0 (fun _ => true) true fuel 66 cs = some x) :
    ∃ s : Cl, cs = s.cs ∧ s.key.size ∈ x.1.weights Try.prog 66 ∧ s.val.size ∈ x.1.weights Try.prog 66 := by
  obtain ⟨xs, n, _, rfl, hl, hlen, hf⟩ := DataW.trod_struct Try.underlying66 h
  rw [cCell] at hl
  match xs, hlen, cs, hl with
  | [y1, y2], _, [v1, v2], _ =>
    have g1 : DataW.trod enc Try.prog W 0 (fun _ => true) true n 9 (List.take (Try.prog.cellsOf 9) (List.drop 0 [v1, v2])) = some y1 := hf 0 _ rfl
    rw [cStrN] at g1
    have g2 : DataW.trod enc Try.prog W 0 (fun _ => true) true n 9 (List.take (Try.prog.cellsOf 9) (List.drop 1 [v1, v2])) = some y2 := hf 1 _ rfl
    rw [cStrN] at g2
    obtain ⟨s1, e1, f1, _⟩ := DataW.trod_string Try.underlying9 g1
    obtain ⟨s2, e2, f2, _⟩ := DataW.trod_string Try.underlying9 g2
    simp only [List.drop_zero, List.drop_succ_cons, List.take_succ_cons, List.take_zero, List.cons.injEq, and_true] at e1 e2
    subst e1 e2
    refine ⟨⟨s1, s2⟩, rfl, ?_, ?_⟩
    · show s1.size ∈ DataW.weights Try.prog 66 (.agg [y1.1, y2.1])
      rw [f1]
      simp [DataW.weights, Try.underlying66, DataW.weightsEach]
    · show s2.size ∈ DataW.weights Try.prog 66 (.agg [y1.1, y2.1])
      rw [f2]
      simp [DataW.weights, Try.underlying66, DataW.weightsEach]
theorem lies_of_range {ao : Option Addr} {l : List Cl} (h : 0 < l.length → ∃ g o, ao = some ⟨g, o, none⟩ ∧ ∀ j (hj : j < l.length), W.rangeAt g (o + j * 2) l[j].cs) : Lies W ao (flatC l) := fun h0 => by
  rw [flatC_len] at h0
  obtain ⟨g, o, e, hr⟩ := h (by omega)
  refine ⟨g, o, e, fun j v hv => ?_⟩
  have hjl := (List.getElem?_eq_some_iff.1 hv).1
  rw [flatC_len] at hjl
  have hj2 : j / 2 < l.length := by omega
  have hg := flatC_get l (j / 2) hj2
  have hrr := hr (j / 2) hj2
  rcases Nat.mod_two_eq_zero_or_one j with hm | hm
  · have ej : j = j / 2 * 2 := by omega
    rw [ej, hg.1] at hv
    cases hv
    have := hrr 0 (.string l[j / 2].key) rfl
    rw [show o + j = o + j / 2 * 2 + 0 by omega]
    exact this
  · have ej : j = j / 2 * 2 + 1 := by omega
    rw [ej, hg.2] at hv
    cases hv
    have := hrr 1 (.string l[j / 2].val) rfl
    rw [show o + j = o + j / 2 * 2 + 1 by omega]
    exact this
set_option maxRecDepth 100000 in
theorem open_cells_cell {fuel : Nat} {cs : List Value} {x : DataW H × List MemPlace} (h : DataW.trod enc Try.prog W 0 (fun _ => true) true fuel 22 cs = some x) (hz : ∀ k ∈ x.1.weights Try.prog 22, k ≤ reachBytes) :
    ∃ (ao : Option Addr) (l : List Cl) (cap : Nat), cs = [.slice ao l.length cap] ∧ Lies W ao (flatC l) ∧ (∀ c ∈ l, c.key.size ≤ 140737488355328 ∧ c.val.size ≤ 140737488355328) ∧ l.length ≤ 4398046510976 ∧ l.length ≤ cap ∧ (ao = none → cap = 0) := by
  rcases open_slice Try.underlying22 h with ⟨hcs, hx⟩ | ⟨x, len, cap, m, n, D, Pl, rfl, _, hl, hm, hmm, hx, hel⟩
  · exact ⟨none, [], 0, hcs, Lies.nil _ _, by simp, by simp, by simp, fun _ => rfl⟩
  · subst hx
    have hmle : len ≤ m := by rw [hmm]; simp; exact hl
    have hlen : len * 32 ≤ reachBytes := by
      have h1 := hz _ (by simp only [DataW.weights, Try.underlying22]; exact List.mem_cons_self ..)
      simp only [List.length_map, List.length_range, bCell] at h1
      have : (len + ((List.range (m - len)).map fun i => D (len + i)).length) * 32 ≤ reachBytes := by simpa using h1
      omega
    have hspot : 0 < len → x.spot = none := by
      intro h0
      obtain ⟨cs', h1, h2⟩ := hel 0 (by omega)
      rw [cCell] at h1
      obtain ⟨s, rfl, _⟩ := open_cell_cells h2
      obtain ⟨_, _, hc⟩ := World.cells?_some h1
      have := World.cell?_spot (hc 0 (by simp))
      simpa [Addr.add] using this
    have each : ∀ i, i < len → ∃ s : Cl, (s.key.size ≤ 140737488355328 ∧ s.val.size ≤ 140737488355328) ∧ ∃ b off, x = ⟨b, off, none⟩ ∧ W.rangeAt b (off + i * 2) s.cs := by
      intro i hi
      obtain ⟨cs', h1, h2⟩ := hel i (by omega)
      obtain ⟨s, rfl, hk1, hk2⟩ := open_cell_cells h2
      rw [cCell] at h1
      obtain ⟨_, _, hc⟩ := World.cells?_some h1
      have hsp := hspot (by omega)
      obtain ⟨b, off, spot⟩ := x
      simp only at hsp
      subst hsp
      simp only [Addr.add_mid] at hc
      have hin : ∀ k, k ∈ (D i).weights Try.prog 66 → k ≤ 140737488355328 := fun k hk => by
        have h4 := hz k (by
          simp only [DataW.weights, Try.underlying22]
          exact List.mem_cons_of_mem _ (List.mem_append_left _ (weights_nd (List.mem_map.2 ⟨i, List.mem_range.2 hi, rfl⟩) hk)))
        exact Nat.le_trans h4 (by decide)
      refine ⟨s, ⟨hin _ hk1, hin _ hk2⟩, b, off, rfl, fun k v hv => ?_⟩
      obtain ⟨hk7, _⟩ := List.getElem?_eq_some_iff.1 hv
      exact (hc k hk7).trans hv
    obtain ⟨l, hll, hi⟩ := choose_node _ len each
    refine ⟨some x, l, cap, by rw [hll], lies_of_range fun h0 => ?_, fun y hy => ?_, ?_, by omega, fun e => by cases e⟩
    · obtain ⟨_, b, off, rfl, _⟩ := hi 0 h0
      refine ⟨b, off, rfl, fun j hj => ?_⟩
      obtain ⟨_, b', off', e, hat⟩ := hi j hj
      cases e
      exact hat
    · obtain ⟨j, hj, rfl⟩ := List.mem_iff_getElem.1 hy
      exact (hi j hj).1
    · rw [hll]
      have : reachBytes ≤ 140737488351232 := by decide
      omega
set_option maxRecDepth 100000 in
theorem open_strs_cell {fuel : Nat} {cs : List Value} {x : DataW H × List MemPlace} (h : DataW.trod enc Try.prog W 0 (fun _ => true) true fuel 23 cs = some x) (hz : ∀ k ∈ x.1.weights Try.prog 23, k ≤ reachBytes) :
    ∃ (ao : Option Addr) (l : List ByteArray) (cap : Nat), cs = [.slice ao l.length cap] ∧ Lies W ao (flatK l) ∧ l.length ≤ 8796093021952 ∧ l.length ≤ cap ∧ (ao = none → cap = 0) := by
  rcases open_slice1 Try.underlying23 cStrN h with ⟨hcs, hx⟩ | ⟨x, len, cap, m, n, V, D, Pl, rfl, _, hl, hm, hmm, hx, hel⟩
  · exact ⟨none, [], 0, hcs, Lies.nil _ _, by simp, by simp, fun _ => rfl⟩
  · subst hx
    have hmle : len ≤ m := by rw [hmm]; simp; exact hl
    have hlen : len * 16 ≤ reachBytes := by
      have h1 := hz _ (by simp only [DataW.weights, Try.underlying23]; exact List.mem_cons_self ..)
      simp only [List.length_map, List.length_range, bStr] at h1
      have : (len + ((List.range (m - len)).map fun i => D (len + i)).length) * 16 ≤ reachBytes := by simpa using h1
      omega
    have each : ∀ i, i < len → ∃ y : ByteArray, W.cell? (x.add i) = some (.string y) := by
      intro i hi
      obtain ⟨h1, h2⟩ := hel i (by omega)
      obtain ⟨z, e, _⟩ := DataW.trod_string Try.underlying9 h2
      simp at e
      exact ⟨z, by rw [h1, e]⟩
    obtain ⟨xs, hbl, hbs⟩ := choose_node _ len each
    refine ⟨some x, xs, cap, by rw [hbl], fun h0 => ?_, ?_, by omega, fun e => by cases e⟩
    · rw [flatK_len] at h0
      obtain ⟨b, off, spot⟩ := x
      have hs : spot = none := by
        have := World.cell?_spot (hbs 0 h0)
        simpa [Addr.add] using this
      subst hs
      refine ⟨b, off, rfl, fun j v hv => ?_⟩
      have hj := (List.getElem?_eq_some_iff.1 hv).1
      rw [flatK_len] at hj
      have := hbs j hj
      rw [Addr.add_mid] at this
      rw [this]
      rw [← hv]
      simp [flatK, hj]
    · rw [hbl]
      have : reachBytes ≤ 140737488351232 := by decide
      omega
set_option maxRecDepth 100000 in
theorem open_kids_cell {fuel : Nat} {cs : List Value} {x : DataW H × List MemPlace} (h : DataW.trod enc Try.prog W 0 (fun _ => true) true fuel 24 cs = some x) (hz : ∀ k ∈ x.1.weights Try.prog 24, k ≤ reachBytes) :
    ∃ (ao : Option Addr) (l : List Nat) (cap : Nat), cs = [.slice ao l.length cap] ∧ Lies W ao (flatG l) ∧ (∀ k ∈ l, k < 4294967296) ∧ l.length ≤ 35184372087808 ∧ l.length ≤ cap ∧ (ao = none → cap = 0) := by
  rcases open_slice1 Try.underlying24 cU32 h with ⟨hcs, hx⟩ | ⟨x, len, cap, m, n, V, D, Pl, rfl, _, hl, hm, hmm, hx, hel⟩
  · exact ⟨none, [], 0, hcs, Lies.nil _ _, by simp, by simp, by simp, fun _ => rfl⟩
  · subst hx
    have hmle : len ≤ m := by rw [hmm]; simp; exact hl
    have hlen : len * 4 ≤ reachBytes := by
      have h1 := hz _ (by simp only [DataW.weights, Try.underlying24]; exact List.mem_cons_self ..)
      simp only [List.length_map, List.length_range, bU32] at h1
      have : (len + ((List.range (m - len)).map fun i => D (len + i)).length) * 4 ≤ reachBytes := by simpa using h1
      omega
    have each : ∀ i, i < len → ∃ y : Nat, y < 4294967296 ∧ W.cell? (x.add i) = some (.int .u32 (y : Int)) := by
      intro i hi
      obtain ⟨h1, h2⟩ := hel i (by omega)
      obtain ⟨z, e, _, wf⟩ := DataW.trod_int Try.underlying50 h2
      simp at e
      have hb := bounds_u32 wf
      obtain ⟨k, rfl⟩ := Int.eq_ofNat_of_zero_le hb.1
      exact ⟨k, by omega, by rw [h1, e]⟩
    obtain ⟨xs, hbl, hbs⟩ := choose_node _ len each
    refine ⟨some x, xs, cap, by rw [hbl], fun h0 => ?_, fun y hy => ?_, ?_, by omega, fun e => by cases e⟩
    · rw [flatG_len] at h0
      obtain ⟨b, off, spot⟩ := x
      have hs : spot = none := by
        have := World.cell?_spot (hbs 0 h0).2
        simpa [Addr.add] using this
      subst hs
      refine ⟨b, off, rfl, fun j v hv => ?_⟩
      have hj := (List.getElem?_eq_some_iff.1 hv).1
      rw [flatG_len] at hj
      have := (hbs j hj).2
      rw [Addr.add_mid] at this
      rw [this]
      rw [← hv]
      simp [flatG, hj]
    · obtain ⟨j, hj, rfl⟩ := List.mem_iff_getElem.1 hy
      exact (hbs j hj).1
    · rw [hbl]
      have : reachBytes ≤ 140737488351232 := by decide
      omega
/-- what is known of the lengths of a node that came in -/
def Nd.Came (n : Nd) : Prop := n.cells.length ≤ 4398046510976 ∧ n.keys.length ≤ 8796093021952 ∧ n.kids.length ≤ 35184372087808
set_option maxRecDepth 100000 in
theorem open_node {base : Nat} {v : Value} {d : DataW H} {ps : List MemPlace} (hval : Value.okWide Try.prog W .any base 26 v) (h : DataW.Trod enc Try.prog W 0 (fun _ => true) true 26 v d ps) (hz : (DataW.weights Try.prog 26 d).all (· ≤ reachBytes) = true) :
    ∃ (n : Nd) (a : Nv), v = a.v n ∧ NdAt W n a ∧ a.Nil ∧ n.Came := by
  obtain ⟨cs, rfl, hsz⟩ := okWide_struct Try.underlying26 hval
  rw [cNode] at hsz
  obtain ⟨fuel, hf⟩ := h
  obtain ⟨xs, n, _, hd, hl, hlen, hf⟩ := DataW.trod_struct Try.underlying26 hf
  obtain ⟨l, rfl⟩ : ∃ l : List Value, cs = l.toArray := ⟨cs.toList, by simp⟩
  have hc : (Value.agg l.toArray).cells.toList = l := by simp [Value.cells]
  rw [hc] at hl hf
  have hall := List.all_eq_true.1 hz
  match xs, hlen, l, hsz with
  | [y0, y1, y2, y3], _, [v0, v1, v2, v3], _ =>
    have hd' : d = .agg [y0.1, y1.1, y2.1, y3.1] := by simpa using congrArg Prod.fst hd
    have g0 : DataW.trod enc Try.prog W 0 (fun _ => true) true n 4 (List.take (Try.prog.cellsOf 4) (List.drop 0 [v0, v1, v2, v3])) = some y0 := hf 0 _ rfl
    rw [cBooN] at g0
    have g1 : DataW.trod enc Try.prog W 0 (fun _ => true) true n 22 (List.take (Try.prog.cellsOf 22) (List.drop 1 [v0, v1, v2, v3])) = some y1 := hf 1 _ rfl
    rw [cCells] at g1
    have g2 : DataW.trod enc Try.prog W 0 (fun _ => true) true n 23 (List.take (Try.prog.cellsOf 23) (List.drop 2 [v0, v1, v2, v3])) = some y2 := hf 2 _ rfl
    rw [cStrs] at g2
    have g3 : DataW.trod enc Try.prog W 0 (fun _ => true) true n 24 (List.take (Try.prog.cellsOf 24) (List.drop 3 [v0, v1, v2, v3])) = some y3 := hf 3 _ rfl
    rw [cKids] at g3
    have hin : ∀ k, (k ∈ y1.1.weights Try.prog 22 ∨ k ∈ y2.1.weights Try.prog 23 ∨ k ∈ y3.1.weights Try.prog 24) → k ≤ reachBytes := fun k hk => by
      have h3 := hall k (by
        rw [hd']
        simp only [DataW.weights, Try.underlying26]
        simp [DataW.weightsEach]
        rcases hk with hk | hk | hk
        · exact .inr (.inl hk)
        · exact .inr (.inr (.inl hk))
        · exact .inr (.inr (.inr hk)))
      simpa using h3
    obtain ⟨b0, e0, _⟩ := DataW.trod_bool Try.underlying4 g0
    obtain ⟨a1, l1, c1, e1, k1, s1, n1, p1, z1⟩ := open_cells_cell g1 (fun k hk => hin k (.inl hk))
    obtain ⟨a2, l2, c2, e2, k2, n2, p2, z2⟩ := open_strs_cell g2 (fun k hk => hin k (.inr (.inl hk)))
    obtain ⟨a3, l3, c3, e3, k3, s3, n3, p3, z3⟩ := open_kids_cell g3 (fun k hk => hin k (.inr (.inr hk)))
    simp only [List.drop_zero, List.drop_succ_cons, List.take_succ_cons, List.take_zero, List.cons.injEq, and_true] at e0 e1 e2 e3
    subst e0 e1 e2 e3
    exact ⟨⟨b0, l1, l2, l3⟩, ⟨a1, c1, a2, c2, a3, c3⟩, rfl, ⟨k1, k2, k3, s3, ⟨by show l1.length ≤ _; omega, by show l2.length ≤ _; omega, by show l3.length ≤ _; omega⟩, s1, ⟨p1, p2, p3⟩⟩, ⟨z1, z2, z3⟩, ⟨n1, n2, n3⟩⟩
end
end Go.Proofs.Ytppmpomfihalfaa
