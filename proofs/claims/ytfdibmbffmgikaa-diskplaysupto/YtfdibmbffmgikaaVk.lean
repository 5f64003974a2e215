/- Steps that came in, with their sizes. -/
import Derived.Test.YtfdibmbffmgikaaKp
namespace Go.Proofs.Ytfdibmbffmgikaa
open Go.ChangeShapes Go.WideShapes Go.ChangeAt Go.RowKit Go.Deep

section
variable {H : Type} {enc : TypeId × Value → H} {W : World}
theorem bulk_mem : ∀ (l : List (DataW H)) (d : DataW H), d ∈ l → Rows.uptoBulk d ≤ Rows.uptoBulkAll l
  | [], _, h => by cases h
  | e :: r, d, h => by
    simp only [Rows.uptoBulkAll]
    rcases List.mem_cons.1 h with rfl | h
    · omega
    · have := bulk_mem r d h
      omega
theorem open_stepS {fuel : Nat} {cs : List Value} {x : DataW H × List MemPlace} (h : DataW.trod enc Try.prog W 0 (fun _ => true) true fuel 47 cs = some x) :
    ∃ s : St, s.Ok ∧ cs = s.cs.toList ∧ Kb W W.heap.size s.kao s.ks ∧ s.s.size + s.ks.length ≤ Rows.uptoBulk x.1 := by
  obtain ⟨xs, n, _, rfl, hl, hlen, hf⟩ := DataW.trod_struct Try.underlying47 h
  rw [cStep] at hl
  match xs, hlen, cs, hl with
  | [y0, y1, y2, y3, y4], _, [v0, v1, v2, v3, v4, v5, v6], _ =>
    have g0 : DataW.trod enc Try.prog W 0 (fun _ => true) true n 3 (List.take (Try.prog.cellsOf 3) (List.drop 0 [v0, v1, v2, v3, v4, v5, v6])) = some y0 := hf 0 _ rfl
    rw [cInt] at g0
    have g1 : DataW.trod enc Try.prog W 0 (fun _ => true) true n 3 (List.take (Try.prog.cellsOf 3) (List.drop 1 [v0, v1, v2, v3, v4, v5, v6])) = some y1 := hf 1 _ rfl
    rw [cInt] at g1
    have g2 : DataW.trod enc Try.prog W 0 (fun _ => true) true n 9 (List.take (Try.prog.cellsOf 9) (List.drop 2 [v0, v1, v2, v3, v4, v5, v6])) = some y2 := hf 2 _ rfl
    rw [cStr] at g2
    have g3 : DataW.trod enc Try.prog W 0 (fun _ => true) true n 4 (List.take (Try.prog.cellsOf 4) (List.drop 3 [v0, v1, v2, v3, v4, v5, v6])) = some y3 := hf 3 _ rfl
    rw [cBool] at g3
    have g4 : DataW.trod enc Try.prog W 0 (fun _ => true) true n 27 (List.take (Try.prog.cellsOf 27) (List.drop 4 [v0, v1, v2, v3, v4, v5, v6])) = some y4 := hf 4 _ rfl
    rw [cFate] at g4
    obtain ⟨n0, e0, _, w0⟩ := DataW.trod_int Try.underlying3 g0
    obtain ⟨n1, e1, _, w1⟩ := DataW.trod_int Try.underlying3 g1
    obtain ⟨s2, e2, f2, w2⟩ := DataW.trod_string Try.underlying9 g2
    obtain ⟨b3, e3, _⟩ := DataW.trod_bool Try.underlying4 g3
    obtain ⟨ao, ks, cap, torn, cut, e4, ht, hc, hk, hbk⟩ := open_fate_cells g4
    simp only [List.drop_zero, List.drop_succ_cons, List.take_succ_cons, List.take_zero, List.cons.injEq, and_true] at e0 e1 e2 e3 e4
    obtain ⟨e4, e5, e6⟩ := e4
    subst e0 e1 e2 e3 e4 e5 e6
    have hb2 : s2.size + 1 ≤ Rows.uptoBulk y2.1 := by rw [f2]; simp [Rows.uptoBulk]
    refine ⟨⟨n0, n1, s2, b3, ao, ks, cap, torn, cut⟩, ⟨bounds_i64 w0, bounds_i64 w1, w2, ht, hc⟩, rfl, hk, ?_⟩
    show s2.size + ks.length ≤ _
    simp only [Rows.uptoBulk, List.map_cons, Rows.uptoBulkAll]
    omega
theorem open_steps4S {base : Nat} {v : Value} {d : DataW H} {ps : List MemPlace} (hval : Value.okWide Try.prog W .any base 38 v) (h : DataW.Trod enc Try.prog W 0 (fun _ => true) true 38 v d ps) :
    ∃ (ao : Option Addr) (l : List St) (cap : Nat), v = .slice ao l.length cap ∧ Sts W W.heap.size ao l ∧ l.length + 1 ≤ Rows.uptoBulk d ∧ ∀ x ∈ l, x.s.size + x.ks.length ≤ Rows.uptoBulk d := by
  obtain ⟨a, len, cap, rfl⟩ := okWide_slice Try.underlying38 hval
  obtain ⟨fuel, hf⟩ := h
  rcases open_slice Try.underlying38 hf with ⟨hcs, hx⟩ | ⟨x, l', c', m, n, D, Pl, hcs, _, hl, hm, hmm, hx, hel⟩
  · simp [Value.cells] at hcs
    obtain ⟨rfl, rfl, rfl⟩ := hcs
    cases hx
    exact ⟨none, [], 0, rfl, ⟨by simp, fun h => absurd h (by simp), by simp⟩, by simp [Rows.uptoBulk], by simp⟩
  · simp [Value.cells] at hcs
    obtain ⟨rfl, rfl, rfl⟩ := hcs
    simp only [Prod.mk.injEq] at hx
    obtain ⟨rfl, -⟩ := hx
    have hmle : len ≤ m := by rw [hmm]; simp; exact hl
    have hspot : 0 < len → x.spot = none := by
      intro h0
      obtain ⟨cs', h1, h2⟩ := hel 0 (by omega)
      rw [cStep] at h1
      obtain ⟨s, ok, rfl, _, _⟩ := open_stepS h2
      obtain ⟨_, _, hc⟩ := World.cells?_some h1
      have := World.cell?_spot (hc 0 (by simp))
      simpa [Addr.add] using this
    have each : ∀ i, i < len → ∃ s : St, s.Ok ∧ Kb W W.heap.size s.kao s.ks ∧ s.s.size + s.ks.length ≤ Rows.uptoBulkAll ((List.range len).map D) ∧ ∃ b off, x = ⟨b, off, none⟩ ∧ b < W.heap.size ∧ s.At W b (off + i * 7) := by
      intro i hi
      obtain ⟨cs', h1, h2⟩ := hel i (by omega)
      obtain ⟨s, ok, rfl, hk, hbs⟩ := open_stepS h2
      rw [cStep] at h1
      obtain ⟨_, _, hc⟩ := World.cells?_some h1
      have hsp := hspot (by omega)
      obtain ⟨b, off, spot⟩ := x
      simp only at hsp
      subst hsp
      simp only [Addr.add_mid] at hc
      have hb : b < W.heap.size := World.block_lt_of_cell? W _ (hc 0 (by simp))
      refine ⟨s, ok, hk, Nat.le_trans hbs (bulk_mem _ _ (List.mem_map.2 ⟨i, List.mem_range.2 hi, rfl⟩)), b, off, rfl, hb, fun k hk => ?_⟩
      have := hc k (by simpa [St.cs] using hk)
      rw [this, Array.getElem?_toList]
    obtain ⟨l, hll, hi⟩ := choose_list _ len each
    refine ⟨some x, l, cap, by rw [hll], ⟨fun y hy => ?_, fun h0 => ?_, fun y hy => ?_⟩, ?_, fun y hy => ?_⟩
    · obtain ⟨j, hj, rfl⟩ := List.mem_iff_getElem.1 hy
      exact (hi j hj).1
    · obtain ⟨_, _, _, b, off, rfl, hb, _⟩ := hi 0 h0
      refine ⟨b, off, rfl, hb, fun j hj => ?_⟩
      obtain ⟨_, _, _, b', off', e, _, hat⟩ := hi j hj
      cases e
      exact hat
    · obtain ⟨j, hj, rfl⟩ := List.mem_iff_getElem.1 hy
      exact (hi j hj).2.1
    · have := bulk_len (H := H) ((List.range len).map D)
      simp only [Rows.uptoBulk]
      rw [List.length_map, List.length_range] at this
      omega
    · obtain ⟨j, hj, rfl⟩ := List.mem_iff_getElem.1 hy
      have := (hi j hj).2.2.1
      simp only [Rows.uptoBulk]
      omega
end
end Go.Proofs.Ytfdibmbffmgikaa
