/- What came in: an object, and how long its values are. Written by mkowo.py. -/
import Derived.Test.YtkcbljmjhlnjpaaQ25
namespace Go.Proofs.Ytkcbljmjhlnjpaa
open Go.ChangeShapes Go.WideShapes Go.ChangeAt Go.RowKit Go.Deep
section
variable {H : Type} {enc : TypeId × Value → H} {W : World}
set_option maxRecDepth 100000 in
theorem open_sibs_cellV {fuel : Nat} {cs : List Value} {x : DataW H × List MemPlace} (h : DataW.trod enc Try.prog W 0 (fun _ => true) true fuel 29 cs = some x) (hz : ∀ k ∈ x.1.weights Try.prog 29, k ≤ reachBytes) :
    ∃ (ao : Option Addr) (l : List Sb) (cap : Nat), cs = [.slice ao l.length cap] ∧ Sa W l ao cap ∧ ∀ y ∈ l, y.val.size ≤ 140737488351232 := by
  rcases open_slice Try.underlying29 h with ⟨hcs, hx⟩ | ⟨x, len, cap, m, n, D, Pl, rfl, _, hl, hm, hmm, hx, hel⟩
  · exact ⟨none, [], 0, hcs, Sa.none _, fun y hy => by cases hy⟩
  · subst hx
    have hmle : len ≤ m := by rw [hmm]; simp; exact hl
    have hlen : len * 40 ≤ reachBytes := by
      have h1 := hz _ (by simp only [DataW.weights, Try.underlying29]; exact List.mem_cons_self ..)
      simp only [List.length_map, List.length_range, bSib] at h1
      have : (len + ((List.range (m - len)).map fun i => D (len + i)).length) * 40 ≤ reachBytes := by simpa using h1
      omega
    have hspot : 0 < len → x.spot = none := by
      intro h0
      obtain ⟨cs', h1, h2⟩ := hel 0 (by omega)
      rw [cSib] at h1
      obtain ⟨s, rfl, _⟩ := open_sib h2
      obtain ⟨_, _, hc⟩ := World.cells?_some h1
      have := World.cell?_spot (hc 0 (by simp))
      simpa [Addr.add] using this
    have each : ∀ i, i < len → ∃ s : Sb, (s.Fit ∧ s.val.size ≤ 140737488351232) ∧ ∃ b off, x = ⟨b, off, none⟩ ∧ W.rangeAt b (off + i * 4) s.cs := by
      intro i hi
      obtain ⟨cs', h1, h2⟩ := hel i (by omega)
      obtain ⟨s, rfl, hk1, hk2, hk3⟩ := open_sib h2
      rw [cSib] at h1
      obtain ⟨_, _, hc⟩ := World.cells?_some h1
      have hsp := hspot (by omega)
      obtain ⟨b, off, spot⟩ := x
      simp only at hsp
      subst hsp
      simp only [Addr.add_mid] at hc
      have hin : ∀ k, k ∈ (D i).weights Try.prog 69 → k ≤ 140737488351232 := fun k hk => by
        have h4 := hz k (by
          simp only [DataW.weights, Try.underlying29]
          exact List.mem_cons_of_mem _ (List.mem_append_left _ (weights_sb (List.mem_map.2 ⟨i, List.mem_range.2 hi, rfl⟩) hk)))
        exact Nat.le_trans h4 (by decide)
      refine ⟨s, ⟨⟨hk1, hk2, Nat.le_trans (hin _ hk3) (by decide)⟩, hin _ hk3⟩, b, off, rfl, fun k v hv => ?_⟩
      obtain ⟨hk7, _⟩ := List.getElem?_eq_some_iff.1 hv
      exact (hc k hk7).trans hv
    obtain ⟨l, hll, hi⟩ := choose_list _ len each
    refine ⟨some x, l, cap, by rw [hll], ⟨fun h0 => ?_, by omega, (fun e => by cases e), fun y hy => ?_, ?_⟩, fun y hy => ?_⟩
    · rw [flatS_len] at h0
      obtain ⟨_, b, off, rfl, _⟩ := hi 0 (by omega)
      refine ⟨b, off, rfl, ?_⟩
      have := lies_sibs (w := W) (b := b) (off := off) l 0 (fun j hj => by
        obtain ⟨_, b', off', e, hat⟩ := hi j hj
        cases e
        rw [Nat.zero_add]; exact hat)
      simpa using this
    · obtain ⟨j, hj, rfl⟩ := List.mem_iff_getElem.1 hy
      exact (hi j hj).1.1
    · rw [hll]
      have : reachBytes ≤ 140737488351232 := by decide
      omega
    · obtain ⟨j, hj, rfl⟩ := List.mem_iff_getElem.1 hy
      exact (hi j hj).1.2
set_option maxRecDepth 100000 in
theorem open_st_cellsV {fuel : Nat} {cs : List Value} {x : DataW H × List MemPlace} (h : DataW.trod enc Try.prog W 0 (fun _ => true) true fuel 31 cs = some x) (hz : ∀ k ∈ x.1.weights Try.prog 31, k ≤ reachBytes) :
    ∃ (s : St) (a : Sv), cs = [.slice a.sa s.seen.length a.sc, .slice a.ba s.sibs.length a.bc] ∧ SAt W s a ∧ ∀ y ∈ s.sibs, y.val.size ≤ 140737488351232 := by
  obtain ⟨xs, n, _, rfl, hl, hlen, hf⟩ := DataW.trod_struct Try.underlying31 h
  rw [cState] at hl
  match xs, hlen, cs, hl with
  | [y0, y1], _, [v0, v1], _ =>
    have g0 : DataW.trod enc Try.prog W 0 (fun _ => true) true n 28 (List.take (Try.prog.cellsOf 28) (List.drop 0 [v0, v1])) = some y0 := hf 0 _ rfl
    rw [cDots] at g0
    have g1 : DataW.trod enc Try.prog W 0 (fun _ => true) true n 29 (List.take (Try.prog.cellsOf 29) (List.drop 1 [v0, v1])) = some y1 := hf 1 _ rfl
    rw [cSibs] at g1
    have hin : ∀ k, (k ∈ y0.1.weights Try.prog 28 ∨ k ∈ y1.1.weights Try.prog 29) → k ≤ reachBytes := fun k hk => hz k (by
      simp only [List.map_cons, List.map_nil, DataW.weights, Try.underlying31]
      simp [DataW.weightsEach]
      exact hk)
    obtain ⟨a1, l1, c1, e1, k1⟩ := open_dots_cell g0 (fun k hk => hin k (.inl hk))
    obtain ⟨a2, l2, c2, e2, k2, k3⟩ := open_sibs_cellV g1 (fun k hk => hin k (.inr hk))
    simp only [List.drop_zero, List.drop_succ_cons, List.take_succ_cons, List.take_zero, List.cons.injEq, and_true] at e1 e2
    subst e1 e2
    exact ⟨⟨l1, l2⟩, ⟨a1, c1, a2, c2⟩, rfl, ⟨k1, k2⟩, k3⟩
set_option maxRecDepth 100000 in
theorem open_obV {base : Nat} {v : Value} {d : DataW H} {ps : List MemPlace} (hval : Value.okWide Try.prog W .any base 33 v) (h : DataW.Trod enc Try.prog W 0 (fun _ => true) true 33 v d ps) (hz : (DataW.weights Try.prog 33 d).all (· ≤ reachBytes) = true) :
    ∃ (o : Ot) (a : Sv), v = obV o.key a o.st.seen.length o.st.sibs.length ∧ SAt W o.st a ∧ ∀ y ∈ o.st.sibs, y.val.size ≤ 140737488351232 := by
  obtain ⟨cs, rfl, hsz⟩ := okWide_struct Try.underlying33 hval
  rw [cObject] at hsz
  obtain ⟨fuel, hf⟩ := h
  obtain ⟨xs, n, _, hd, hl, hlen, hf⟩ := DataW.trod_struct Try.underlying33 hf
  obtain ⟨l, rfl⟩ : ∃ l : List Value, cs = l.toArray := ⟨cs.toList, by simp⟩
  have hc : (Value.agg l.toArray).cells.toList = l := by simp [Value.cells]
  rw [hc] at hl hf
  have hall := List.all_eq_true.1 hz
  match xs, hlen, l, hsz with
  | [y0, y1], _, [v0, v1, v2], _ =>
    have hd' : d = .agg [y0.1, y1.1] := by simpa using congrArg Prod.fst hd
    have g0 : DataW.trod enc Try.prog W 0 (fun _ => true) true n 9 (List.take (Try.prog.cellsOf 9) (List.drop 0 [v0, v1, v2])) = some y0 := hf 0 _ rfl
    rw [cStr] at g0
    have g1 : DataW.trod enc Try.prog W 0 (fun _ => true) true n 31 (List.take (Try.prog.cellsOf 31) (List.drop 1 [v0, v1, v2])) = some y1 := hf 1 _ rfl
    rw [cState] at g1
    have hin : ∀ k, (k ∈ y0.1.weights Try.prog 9 ∨ k ∈ y1.1.weights Try.prog 31) → k ≤ reachBytes := fun k hk => by
      have h3 := hall k (by
        rw [hd']
        rw [DataW.weights, Try.underlying33]
        simp only [List.map_cons, List.map_nil, DataW.weightsEach, List.append_nil, List.mem_append]
        exact hk)
      simpa using h3
    obtain ⟨t, e0, f0, _⟩ := DataW.trod_string Try.underlying9 g0
    obtain ⟨s, a, e1, k1, k2⟩ := open_st_cellsV g1 (fun k hk => hin k (.inr hk))
    simp only [List.drop_zero, List.drop_succ_cons, List.take_succ_cons, List.take_zero, List.cons.injEq, and_true] at e0 e1
    subst e0
    obtain ⟨rfl, rfl⟩ := e1
    exact ⟨⟨t, s⟩, a, rfl, k1, k2⟩
end
end Go.Proofs.Ytkcbljmjhlnjpaa
