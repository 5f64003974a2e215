/- JournalWhole: rounds that came in. -/
import Derived.Test.YtfdfbjijomepgaaDoorJrb
import Derived.Test.YtfdfbjijomepgaaDoorJw
import Derived.Deep.Slices
namespace Go.Proofs.YtfdfbjijomepgaaDoor
open Go.ChangeShapes Go.WideShapes Go.ChangeAt Go.RowKit Go.Deep

section
variable {H : Type} {enc : TypeId × Value → H} {W : World}
theorem choose_list {α : Type} (p : Nat → α → Prop) (n : Nat) (hp : ∀ i, i < n → ∃ x, p i x) : ∃ l : List α, l.length = n ∧ ∀ (j : Nat) (hj : j < l.length), p j l[j] := by
  induction n with
  | zero => exact ⟨[], rfl, by intro j hj; simp at hj⟩
  | succ k ih =>
    obtain ⟨l, hl, hi⟩ := ih (fun i hi => hp i (by omega))
    obtain ⟨x, hx⟩ := hp k (by omega)
    refine ⟨l ++ [x], by simp [hl], fun j hj => ?_⟩
    by_cases hjk : j < l.length
    · rw [List.getElem_append_left hjk]; exact hi j hjk
    · have e : j = k := by simp [hl] at hj; omega
      subst e
      rw [List.getElem_append_right (by omega)]
      simpa [hl] using hx
theorem cInt : Tryd.prog.cellsOf 3 = 1 := by kernel_rfl
theorem cBool : Tryd.prog.cellsOf 4 = 1 := by kernel_rfl
theorem cBools : Tryd.prog.cellsOf 54 = 1 := by kernel_rfl
theorem cFate : Tryd.prog.cellsOf 56 = 3 := by kernel_rfl
theorem cPages : Tryd.prog.cellsOf 25 = 1 := by kernel_rfl
theorem cRound : Tryd.prog.cellsOf 58 = 7 := by kernel_rfl
theorem cPage : Tryd.prog.cellsOf 70 = 4 := by kernel_rfl
theorem cU8 : Tryd.prog.cellsOf 5 = 1 := by kernel_rfl
theorem cU64 : Tryd.prog.cellsOf 22 = 1 := by kernel_rfl
theorem cStr : Tryd.prog.cellsOf 9 = 1 := by kernel_rfl
set_option maxRecDepth 100000 in
theorem open_bools_cell {fuel : Nat} {cs : List Value} {x : DataW H × List MemPlace} (h : DataW.trod enc Tryd.prog W 0 (fun _ => true) true fuel 54 cs = some x) :
    ∃ (ao : Option Addr) (ks : List Bool) (cap : Nat), cs = [.slice ao ks.length cap] ∧ D.Ks W ao ks [] := by
  rcases open_slice1 Tryd.underlying54 cBool h with ⟨rfl, rfl⟩ | ⟨x, len, cap, m, n, V, D, Pl, rfl, _, hl, hm, hmm, rfl, hel⟩
  · exact ⟨none, [], 0, rfl, fun h0 => absurd h0 (by simp)⟩
  · have hmle : len ≤ m := by rw [hmm]; simp; exact hl
    have each : ∀ i, i < len → ∃ y : Bool, W.cell? (x.add i) = some (.bool y) := by
      intro i hi
      obtain ⟨h1, h2⟩ := hel i (by omega)
      obtain ⟨z, e, _⟩ := DataW.trod_bool Tryd.underlying4 h2
      simp at e
      exact ⟨z, by rw [h1, e]⟩
    obtain ⟨xs, hbl, hbs⟩ := choose_list _ len each
    refine ⟨some x, xs, cap, by rw [hbl], fun h0 => ?_⟩
    obtain ⟨b, off, spot⟩ := x
    have hs : spot = none := by
      have := World.cell?_spot (hbs 0 h0)
      simpa [Addr.add] using this
    subst hs
    refine ⟨b, off, rfl, by simp, fun j hj => ?_⟩
    have := hbs j hj
    rwa [Addr.add_mid] at this
set_option maxRecDepth 100000 in
theorem open_fate_cells {fuel : Nat} {cs : List Value} {x : DataW H × List MemPlace} (h : DataW.trod enc Tryd.prog W 0 (fun _ => true) true fuel 56 cs = some x) :
    ∃ (ao : Option Addr) (ks : List Bool) (cap : Nat) (torn cut : Int), cs = [.slice ao ks.length cap, .int .i64 torn, .int .i64 cut] ∧ D.Ks W ao ks [] := by
  obtain ⟨xs, n, _, rfl, hl, hlen, hf⟩ := DataW.trod_struct Tryd.underlying56 h
  rw [cFate] at hl
  match xs, hlen, cs, hl with
  | [y0, y1, y2], _, [v0, v1, v2], _ =>
    have g0 : DataW.trod enc Tryd.prog W 0 (fun _ => true) true n 54 (List.take (Tryd.prog.cellsOf 54) (List.drop 0 [v0, v1, v2])) = some y0 := hf 0 _ rfl
    rw [cBools] at g0
    have g1 : DataW.trod enc Tryd.prog W 0 (fun _ => true) true n 3 (List.take (Tryd.prog.cellsOf 3) (List.drop 1 [v0, v1, v2])) = some y1 := hf 1 _ rfl
    rw [cInt] at g1
    have g2 : DataW.trod enc Tryd.prog W 0 (fun _ => true) true n 3 (List.take (Tryd.prog.cellsOf 3) (List.drop 2 [v0, v1, v2])) = some y2 := hf 2 _ rfl
    rw [cInt] at g2
    obtain ⟨ao, ks, cap, e0, hk⟩ := open_bools_cell g0
    obtain ⟨n1, e1, _, w1⟩ := DataW.trod_int Tryd.underlying3 g1
    obtain ⟨n2, e2, _, w2⟩ := DataW.trod_int Tryd.underlying3 g2
    simp only [List.drop_zero, List.drop_succ_cons, List.take_succ_cons, List.take_zero, List.cons.injEq, and_true] at e0 e1 e2
    subst e0 e1 e2
    exact ⟨ao, ks, cap, n1, n2, rfl, hk⟩
set_option maxRecDepth 100000 in
theorem open_page_cells {fuel : Nat} {cs : List Value} {x : DataW H × List MemPlace} (h : DataW.trod enc Tryd.prog W 0 (fun _ => true) true fuel 70 cs = some x) :
    ∃ p : Pg, cs = p.cs.toList ∧ p.Fit := by
  obtain ⟨xs, n, _, rfl, hl, hlen, hf⟩ := DataW.trod_struct Tryd.underlying70 h
  rw [cPage] at hl
  match xs, hlen, cs, hl with
  | [y0, y1, y2, y3], _, [v0, v1, v2, v3], _ =>
    have g0 : DataW.trod enc Tryd.prog W 0 (fun _ => true) true n 5 (List.take (Tryd.prog.cellsOf 5) (List.drop 0 [v0, v1, v2, v3])) = some y0 := hf 0 _ rfl
    rw [cU8] at g0
    have g1 : DataW.trod enc Tryd.prog W 0 (fun _ => true) true n 68 (List.take (Tryd.prog.cellsOf 68) (List.drop 1 [v0, v1, v2, v3])) = some y1 := hf 1 _ rfl
    rw [cellsU32] at g1
    have g2 : DataW.trod enc Tryd.prog W 0 (fun _ => true) true n 22 (List.take (Tryd.prog.cellsOf 22) (List.drop 2 [v0, v1, v2, v3])) = some y2 := hf 2 _ rfl
    rw [cU64] at g2
    have g3 : DataW.trod enc Tryd.prog W 0 (fun _ => true) true n 9 (List.take (Tryd.prog.cellsOf 9) (List.drop 3 [v0, v1, v2, v3])) = some y3 := hf 3 _ rfl
    rw [cStr] at g3
    obtain ⟨n0, e0, _, w0⟩ := DataW.trod_int Tryd.underlying5 g0
    obtain ⟨n1, e1, _, w1⟩ := DataW.trod_int Tryd.underlying68 g1
    obtain ⟨n2, e2, _, w2⟩ := DataW.trod_int Tryd.underlying22 g2
    obtain ⟨s3, e3, _, w3⟩ := DataW.trod_string Tryd.underlying9 g3
    simp only [List.drop_zero, List.drop_succ_cons, List.take_succ_cons, List.take_zero, List.cons.injEq, and_true] at e0 e1 e2 e3
    subst e0 e1 e2 e3
    have b0 := bounds_u8 w0
    have b1 := bounds_u32 w1
    have b2 := bounds_u64 w2
    obtain ⟨k0, rfl⟩ := Int.eq_ofNat_of_zero_le b0.1
    obtain ⟨k1, rfl⟩ := Int.eq_ofNat_of_zero_le b1.1
    obtain ⟨k2, rfl⟩ := Int.eq_ofNat_of_zero_le b2.1
    exact ⟨⟨k0, k1, k2, s3⟩, rfl, ⟨by show k0 < _; omega, by show k1 < _; omega, by show k2 < _; omega⟩⟩
set_option maxRecDepth 100000 in
theorem open_pages_cell {fuel : Nat} {cs : List Value} {x : DataW H × List MemPlace} (h : DataW.trod enc Tryd.prog W 0 (fun _ => true) true fuel 25 cs = some x) :
    ∃ (ao : Option Addr) (l : List Pg) (cap : Nat), cs = [.slice ao l.length cap] ∧ Pgs W ao l ∧ (∀ p ∈ l, p.Fit) ∧ l.length ≤ 9223372036854775807 := by
  rcases open_slice Tryd.underlying25 h with ⟨rfl, rfl⟩ | ⟨x, len, cap, m, n, D, Pl, rfl, _, hl, hm, hmm, rfl, hel⟩
  · exact ⟨none, [], 0, rfl, fun h0 => absurd h0 (by simp), by simp, by simp⟩
  · have hmle : len ≤ m := by rw [hmm]; simp; exact hl
    have hspot : 0 < len → x.spot = none := by
      intro h0
      obtain ⟨cs', h1, h2⟩ := hel 0 (by omega)
      rw [cPage] at h1
      obtain ⟨s, rfl, _⟩ := open_page_cells h2
      obtain ⟨_, _, hc⟩ := World.cells?_some h1
      have := World.cell?_spot (hc 0 (by simp))
      simpa [Addr.add] using this
    have each : ∀ i, i < len → ∃ s : Pg, s.Fit ∧ ∃ b off, x = ⟨b, off, none⟩ ∧ ∀ k, k < 4 → W.cell? ⟨b, off + i * 4 + k, none⟩ = s.cs[k]? := by
      intro i hi
      obtain ⟨cs', h1, h2⟩ := hel i (by omega)
      obtain ⟨s, rfl, hk⟩ := open_page_cells h2
      rw [cPage] at h1
      obtain ⟨_, _, hc⟩ := World.cells?_some h1
      have hsp := hspot (by omega)
      obtain ⟨b, off, spot⟩ := x
      simp only at hsp
      subst hsp
      simp only [Addr.add_mid] at hc
      refine ⟨s, hk, b, off, rfl, fun k hk => ?_⟩
      have := hc k (by simpa [Pg.cs] using hk)
      rw [this, Array.getElem?_toList]
    obtain ⟨l, hll, hi⟩ := choose_list _ len each
    refine ⟨some x, l, cap, by rw [hll], fun h0 => ?_, fun y hy => ?_, by unfold maxLen at hm; omega⟩
    · obtain ⟨_, b, off, rfl, _⟩ := hi 0 h0
      refine ⟨b, off, rfl, fun j hj => ?_⟩
      obtain ⟨_, b', off', e, hat⟩ := hi j hj
      cases e
      exact hat
    · obtain ⟨j, hj, rfl⟩ := List.mem_iff_getElem.1 hy
      exact (hi j hj).1
set_option maxRecDepth 100000 in
theorem open_round {fuel : Nat} {cs : List Value} {x : DataW H × List MemPlace} (h : DataW.trod enc Tryd.prog W 0 (fun _ => true) true fuel 58 cs = some x) :
    ∃ s : Rnd, cs = s.cs.toList ∧ s.Lies W := by
  obtain ⟨xs, n, _, rfl, hl, hlen, hf⟩ := DataW.trod_struct Tryd.underlying58 h
  rw [cRound] at hl
  match xs, hlen, cs, hl with
  | [y0, y1, y2, y3, y4], _, [v0, v1, v2, v3, v4, v5, v6], _ =>
    have g0 : DataW.trod enc Tryd.prog W 0 (fun _ => true) true n 25 (List.take (Tryd.prog.cellsOf 25) (List.drop 0 [v0, v1, v2, v3, v4, v5, v6])) = some y0 := hf 0 _ rfl
    rw [cPages] at g0
    have g1 : DataW.trod enc Tryd.prog W 0 (fun _ => true) true n 3 (List.take (Tryd.prog.cellsOf 3) (List.drop 1 [v0, v1, v2, v3, v4, v5, v6])) = some y1 := hf 1 _ rfl
    rw [cInt] at g1
    have g2 : DataW.trod enc Tryd.prog W 0 (fun _ => true) true n 3 (List.take (Tryd.prog.cellsOf 3) (List.drop 2 [v0, v1, v2, v3, v4, v5, v6])) = some y2 := hf 2 _ rfl
    rw [cInt] at g2
    have g3 : DataW.trod enc Tryd.prog W 0 (fun _ => true) true n 4 (List.take (Tryd.prog.cellsOf 4) (List.drop 3 [v0, v1, v2, v3, v4, v5, v6])) = some y3 := hf 3 _ rfl
    rw [cBool] at g3
    have g4 : DataW.trod enc Tryd.prog W 0 (fun _ => true) true n 56 (List.take (Tryd.prog.cellsOf 56) (List.drop 4 [v0, v1, v2, v3, v4, v5, v6])) = some y4 := hf 4 _ rfl
    rw [cFate] at g4
    obtain ⟨po, l0, pc, e0, hp, hpf, hpl⟩ := open_pages_cell g0
    obtain ⟨n1, e1, _, w1⟩ := DataW.trod_int Tryd.underlying3 g1
    obtain ⟨n2, e2, _, w2⟩ := DataW.trod_int Tryd.underlying3 g2
    obtain ⟨b3, e3, _⟩ := DataW.trod_bool Tryd.underlying4 g3
    obtain ⟨ao, ks, cap, torn, cut, e4, hk⟩ := open_fate_cells g4
    simp only [List.drop_zero, List.drop_succ_cons, List.take_succ_cons, List.take_zero, List.cons.injEq, and_true] at e0 e1 e2 e3 e4
    obtain ⟨e4, e5, e6⟩ := e4
    subst e0 e1 e2 e3 e4 e5 e6
    exact ⟨⟨l0, po, pc, n1, n2, b3, ks, ao, cap, torn, cut⟩, rfl, ⟨hp, hpf, hpl, (bounds_i64 w2).2, hk⟩⟩
set_option maxRecDepth 100000 in
theorem open_rounds {base : Nat} {v : Value} {d : DataW H} {ps : List MemPlace} (hval : Value.okWide Tryd.prog W .any base 49 v) (h : DataW.Trod enc Tryd.prog W 0 (fun _ => true) true 49 v d ps) :
    ∃ (ao : Option Addr) (l : List Rnd) (cap : Nat), v = .slice ao l.length cap ∧ Rnds W ao l := by
  obtain ⟨a, len, cap, rfl⟩ := okWide_slice Tryd.underlying49 hval
  obtain ⟨fuel, hf⟩ := h
  rcases open_slice Tryd.underlying49 hf with ⟨hcs, hx⟩ | ⟨x, l', c', m, n, D, Pl, hcs, _, hl, hm, hmm, hx, hel⟩
  · simp [Value.cells] at hcs
    obtain ⟨rfl, rfl, rfl⟩ := hcs
    exact ⟨none, [], 0, rfl, fun h => absurd h (by simp), by simp⟩
  · simp [Value.cells] at hcs
    obtain ⟨rfl, rfl, rfl⟩ := hcs
    have hmle : len ≤ m := by rw [hmm]; simp; exact hl
    have hspot : 0 < len → x.spot = none := by
      intro h0
      obtain ⟨cs', h1, h2⟩ := hel 0 (by omega)
      rw [cRound] at h1
      obtain ⟨s, rfl, _⟩ := open_round h2
      obtain ⟨_, _, hc⟩ := World.cells?_some h1
      have := World.cell?_spot (hc 0 (by simp))
      simpa [Addr.add] using this
    have each : ∀ i, i < len → ∃ s : Rnd, s.Lies W ∧ ∃ b off, x = ⟨b, off, none⟩ ∧ W.rangeAt b (off + i * 7) s.cs.toList := by
      intro i hi
      obtain ⟨cs', h1, h2⟩ := hel i (by omega)
      obtain ⟨s, rfl, hk⟩ := open_round h2
      rw [cRound] at h1
      obtain ⟨_, _, hc⟩ := World.cells?_some h1
      have hsp := hspot (by omega)
      obtain ⟨b, off, spot⟩ := x
      simp only at hsp
      subst hsp
      simp only [Addr.add_mid] at hc
      refine ⟨s, hk, b, off, rfl, fun k v hv => ?_⟩
      obtain ⟨hk7, _⟩ := List.getElem?_eq_some_iff.1 hv
      exact (hc k hk7).trans hv
    obtain ⟨l, hll, hi⟩ := choose_list _ len each
    refine ⟨some x, l, cap, by rw [hll], fun h0 => ?_, fun y hy => ?_⟩
    · obtain ⟨_, b, off, rfl, _⟩ := hi 0 h0
      refine ⟨b, off, rfl, fun j hj => ?_⟩
      obtain ⟨_, b', off', e, hat⟩ := hi j hj
      cases e
      exact hat
    · obtain ⟨j, hj, rfl⟩ := List.mem_iff_getElem.1 hy
      exact (hi j hj).1
end
end Go.Proofs.YtfdfbjijomepgaaDoor
