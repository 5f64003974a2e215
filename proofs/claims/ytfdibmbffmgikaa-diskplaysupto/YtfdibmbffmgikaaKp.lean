/- What came in: texts, bools, steps. -/
import Derived.Test.YtfdibmbffmgikaaKo
import Derived.Test.YtfdibmbffmgikaaOpenI
namespace Go.Proofs.Ytfdibmbffmgikaa
open Go.ChangeShapes Go.WideShapes Go.ChangeAt Go.RowKit Go.Deep

def i64b (x : Int) : Prop := -9223372036854775808 ≤ x ∧ x ≤ 9223372036854775807
/-- bools that came in: below B -/
def Kb (u : World) (B : Nat) (ao : Option Addr) (ks : List Bool) : Prop := 0 < ks.length → ∃ g o, ao = some ⟨g, o, none⟩ ∧ g < B ∧ ∀ (j : Nat) (hj : j < ks.length), u.cell? ⟨g, o + j, none⟩ = some (.bool ks[j])
theorem Kb.below {u u' : World} {B : Nat} {ao : Option Addr} {ks : List Bool} (h : Kb u B ao ks) (hb : Below B u u') : Kb u' B ao ks := fun h0 => by
  obtain ⟨g, o, h1, h2, h3⟩ := h h0
  exact ⟨g, o, h1, h2, fun j hj => (hb.cell (p := ⟨g, o + j, none⟩) h2).trans (h3 j hj)⟩
theorem Kb.toKs {u : World} {B : Nat} {ao : Option Addr} {ks : List Bool} (h : Kb u B ao ks) {F : List Nat} (hF : ∀ k ∈ F, B ≤ k) : Ks u ao ks F := fun h0 => by
  obtain ⟨g, o, h1, h2, h3⟩ := h h0
  exact ⟨g, o, h1, fun hx => by have := hF g hx; omega, h3⟩
def St.At (x : St) (W : World) (b off : Nat) : Prop := ∀ k, k < 7 → W.cell? ⟨b, off + k, none⟩ = x.cs[k]?
structure St.Ok (x : St) : Prop where
  kind : i64b x.kind
  n : i64b x.n
  s : x.s.size ≤ 9223372036854775807
  torn : i64b x.torn
  cut : i64b x.cut
/-- steps that came in: below B -/
structure Sts (W : World) (B : Nat) (ao : Option Addr) (l : List St) : Prop where
  ok : ∀ x ∈ l, x.Ok
  at' : 0 < l.length → ∃ b off, ao = some ⟨b, off, none⟩ ∧ b < B ∧ ∀ (j : Nat) (hj : j < l.length), l[j].At W b (off + j * 7)
  ks : ∀ x ∈ l, Kb W B x.kao x.ks
theorem Sts.below {u u' : World} {B : Nat} {ao : Option Addr} {l : List St} (h : Sts u B ao l) (hb : Below B u u') : Sts u' B ao l :=
  ⟨h.ok, fun h0 => by
    obtain ⟨g, o, h1, h2, h3⟩ := h.at' h0
    exact ⟨g, o, h1, h2, fun j hj k hk => (hb.cell (p := ⟨g, o + j * 7 + k, none⟩) h2).trans (h3 j hj k hk)⟩, fun x hx => (h.ks x hx).below hb⟩
/-- texts that came in: below B -/
def Tb (u : World) (B : Nat) (ao : Option Addr) (ls : List ByteArray) : Prop := 0 < ls.length → ∃ g o, ao = some ⟨g, o, none⟩ ∧ g < B ∧ ∀ (j : Nat) (hj : j < ls.length), u.cell? ⟨g, o + j, none⟩ = some (.string ls[j])
theorem Tb.below {u u' : World} {B : Nat} {ao : Option Addr} {ls : List ByteArray} (h : Tb u B ao ls) (hb : Below B u u') : Tb u' B ao ls := fun h0 => by
  obtain ⟨g, o, h1, h2, h3⟩ := h h0
  exact ⟨g, o, h1, h2, fun j hj => (hb.cell (p := ⟨g, o + j, none⟩) h2).trans (h3 j hj)⟩
section
variable {H : Type} {enc : TypeId × Value → H} {W : World}
theorem bulk_pos (d : DataW H) : 1 ≤ Rows.uptoBulk d := by
  cases d with
  | lit x => cases x <;> simp [Rows.uptoBulk]
  | _ => simp [Rows.uptoBulk]
theorem bulk_len : ∀ (l : List (DataW H)), l.length ≤ Rows.uptoBulkAll l
  | [] => Nat.zero_le _
  | d :: r => by
    have := bulk_len r
    have := bulk_pos d
    simp only [List.length_cons, Rows.uptoBulkAll]
    omega
theorem cBool : Try.prog.cellsOf 4 = 1 := by kernel_rfl
theorem cStr : Try.prog.cellsOf 9 = 1 := by kernel_rfl
theorem cBools : Try.prog.cellsOf 25 = 1 := by kernel_rfl
theorem cFate : Try.prog.cellsOf 27 = 3 := by kernel_rfl
theorem cStep : Try.prog.cellsOf 47 = 7 := by kernel_rfl
theorem open_bools_cell {fuel : Nat} {cs : List Value} {x : DataW H × List MemPlace} (h : DataW.trod enc Try.prog W 0 (fun _ => true) true fuel 25 cs = some x) :
    ∃ (ao : Option Addr) (ks : List Bool) (cap : Nat), cs = [.slice ao ks.length cap] ∧ ks.length ≤ 9223372036854775807 ∧ Kb W W.heap.size ao ks ∧ ks.length + 1 ≤ Rows.uptoBulk x.1 := by
  rcases open_slice1 Try.underlying25 cBool h with ⟨rfl, rfl⟩ | ⟨x, len, cap, m, n, V, D, Pl, rfl, _, hl, hm, hmm, rfl, hel⟩
  · exact ⟨none, [], 0, rfl, by decide, fun h0 => absurd h0 (by simp), by simp [Rows.uptoBulk]⟩
  · have hmle : len ≤ m := by rw [hmm]; simp; exact hl
    have each : ∀ i, i < len → ∃ y : Bool, W.cell? (x.add i) = some (.bool y) := by
      intro i hi
      obtain ⟨h1, h2⟩ := hel i (by omega)
      obtain ⟨z, e, _⟩ := DataW.trod_bool Try.underlying4 h2
      simp at e
      exact ⟨z, by rw [h1, e]⟩
    obtain ⟨xs, hbl, hbs⟩ := choose_list _ len each
    refine ⟨some x, xs, cap, by rw [hbl], by unfold maxLen at hm; omega, fun h0 => ?_, ?_⟩
    · obtain ⟨b, off, spot⟩ := x
      have hs : spot = none := by
        have := World.cell?_spot (hbs 0 h0)
        simpa [Addr.add] using this
      subst hs
      refine ⟨b, off, rfl, ?_, fun j hj => ?_⟩
      · have := World.block_lt_of_cell? W _ (hbs 0 h0)
        rwa [Addr.add_mid] at this
      · have := hbs j hj
        rwa [Addr.add_mid] at this
    · have := bulk_len (H := H) ((List.range len).map D)
      simp only [Rows.uptoBulk]
      rw [List.length_map, List.length_range] at this
      omega
theorem open_bools {base : Nat} {v : Value} {d : DataW H} {ps : List MemPlace} (hval : Value.okWide Try.prog W .any base 25 v) (h : DataW.Trod enc Try.prog W 0 (fun _ => true) true 25 v d ps) :
    ∃ (ao : Option Addr) (ks : List Bool) (cap : Nat), v = .slice ao ks.length cap ∧ Kb W W.heap.size ao ks ∧ ks.length + 1 ≤ Rows.uptoBulk d := by
  obtain ⟨a, len, cap, rfl⟩ := okWide_slice Try.underlying25 hval
  obtain ⟨fuel, hf⟩ := h
  obtain ⟨ao, ks, c, h1, _, h2, h3⟩ := open_bools_cell hf
  simp [Value.cells] at h1
  obtain ⟨rfl, rfl, rfl⟩ := h1
  exact ⟨a, ks, cap, rfl, h2, h3⟩
theorem open_fate_cells {fuel : Nat} {cs : List Value} {x : DataW H × List MemPlace} (h : DataW.trod enc Try.prog W 0 (fun _ => true) true fuel 27 cs = some x) :
    ∃ (ao : Option Addr) (ks : List Bool) (cap : Nat) (torn cut : Int), cs = [.slice ao ks.length cap, .int .i64 torn, .int .i64 cut] ∧ i64b torn ∧ i64b cut ∧ Kb W W.heap.size ao ks ∧ ks.length + 1 ≤ Rows.uptoBulk x.1 := by
  obtain ⟨xs, n, _, rfl, hl, hlen, hf⟩ := DataW.trod_struct Try.underlying27 h
  rw [cFate] at hl
  match xs, hlen, cs, hl with
  | [y0, y1, y2], _, [v0, v1, v2], _ =>
    have g0 : DataW.trod enc Try.prog W 0 (fun _ => true) true n 25 (List.take (Try.prog.cellsOf 25) (List.drop 0 [v0, v1, v2])) = some y0 := hf 0 _ rfl
    rw [cBools] at g0
    have g1 : DataW.trod enc Try.prog W 0 (fun _ => true) true n 3 (List.take (Try.prog.cellsOf 3) (List.drop 1 [v0, v1, v2])) = some y1 := hf 1 _ rfl
    rw [cInt] at g1
    have g2 : DataW.trod enc Try.prog W 0 (fun _ => true) true n 3 (List.take (Try.prog.cellsOf 3) (List.drop 2 [v0, v1, v2])) = some y2 := hf 2 _ rfl
    rw [cInt] at g2
    obtain ⟨ao, ks, cap, e0, _, hk, hbk⟩ := open_bools_cell g0
    obtain ⟨n1, e1, _, w1⟩ := DataW.trod_int Try.underlying3 g1
    obtain ⟨n2, e2, _, w2⟩ := DataW.trod_int Try.underlying3 g2
    simp only [List.drop_zero, List.drop_succ_cons, List.take_succ_cons, List.take_zero, List.cons.injEq, and_true] at e0 e1 e2
    subst e0 e1 e2
    refine ⟨ao, ks, cap, n1, n2, rfl, bounds_i64 w1, bounds_i64 w2, hk, ?_⟩
    simp only [Rows.uptoBulk, List.map_cons, Rows.uptoBulkAll]
    omega
theorem open_fate {base : Nat} {v : Value} {d : DataW H} {ps : List MemPlace} (hval : Value.okWide Try.prog W .any base 27 v) (h : DataW.Trod enc Try.prog W 0 (fun _ => true) true 27 v d ps) :
    ∃ (ao : Option Addr) (ks : List Bool) (cap : Nat) (torn cut : Int), v = .agg (fateV ao ks.length cap torn cut) ∧ Kb W W.heap.size ao ks ∧ ks.length + 1 ≤ Rows.uptoBulk d := by
  obtain ⟨cs, rfl, _⟩ := okWide_struct Try.underlying27 hval
  obtain ⟨fuel, hf⟩ := h
  obtain ⟨ao, ks, cap, torn, cut, h1, _, _, h2, h3⟩ := open_fate_cells hf
  refine ⟨ao, ks, cap, torn, cut, ?_, h2, h3⟩
  have h1 : cs.toList = [.slice ao ks.length cap, .int .i64 torn, .int .i64 cut] := h1
  rw [← Array.toArray_toList (xs := cs), h1]
  rfl
theorem open_step {fuel : Nat} {cs : List Value} {x : DataW H × List MemPlace} (h : DataW.trod enc Try.prog W 0 (fun _ => true) true fuel 47 cs = some x) :
    ∃ s : St, s.Ok ∧ cs = s.cs.toList ∧ Kb W W.heap.size s.kao s.ks := by
  obtain ⟨xs, n, _, rfl, hl, hlen, hf⟩ := DataW.trod_struct Try.underlying47 h
  rw [cStep] at hl
  match xs, hlen, cs, hl with
  | [y0, y1, y2, y3, y4], _, [v0, v1, v2, v3, v4, v5, v6], _ =>
    have g0 : DataW.trod enc Try.prog W 0 (fun _ => true) true n 3 (List.take (Try.prog.cellsOf 3) (List.drop 0 [v0, v1, v2, v3, v4, v5, v6])) = some y0 := hf 0 _ rfl
    rw [cInt] at g0
    have g1 : DataW.trod enc Try.prog W 0 (fun _ => true) true n 3 (List.take (Try.prog.cellsOf 3) (List.drop 1 [v0, v1, v2, v3, v4, v5, v6])) = some y1 := hf 1 _ rfl
    rw [cInt] at g1
    have g2 : DataW.trod enc Try.prog W 0 (fun _ => true) true n 9 (List.take (Try.prog.cellsOf 9) (List.drop 2 [v0, v1, v2, v3, v4, v5, v6])) = some y2 := hf 2 _ rfl
    rw [cStr] at g2
    have g3 : DataW.trod enc Try.prog W 0 (fun _ => true) true n 4 (List.take (Try.prog.cellsOf 4) (List.drop 3 [v0, v1, v2, v3, v4, v5, v6])) = some y3 := hf 3 _ rfl
    rw [cBool] at g3
    have g4 : DataW.trod enc Try.prog W 0 (fun _ => true) true n 27 (List.take (Try.prog.cellsOf 27) (List.drop 4 [v0, v1, v2, v3, v4, v5, v6])) = some y4 := hf 4 _ rfl
    rw [cFate] at g4
    obtain ⟨n0, e0, _, w0⟩ := DataW.trod_int Try.underlying3 g0
    obtain ⟨n1, e1, _, w1⟩ := DataW.trod_int Try.underlying3 g1
    obtain ⟨s2, e2, _, w2⟩ := DataW.trod_string Try.underlying9 g2
    obtain ⟨b3, e3, _⟩ := DataW.trod_bool Try.underlying4 g3
    obtain ⟨ao, ks, cap, torn, cut, e4, ht, hc, hk, _⟩ := open_fate_cells g4
    simp only [List.drop_zero, List.drop_succ_cons, List.take_succ_cons, List.take_zero, List.cons.injEq, and_true] at e0 e1 e2 e3 e4
    obtain ⟨e4, e5, e6⟩ := e4
    subst e0 e1 e2 e3 e4 e5 e6
    exact ⟨⟨n0, n1, s2, b3, ao, ks, cap, torn, cut⟩, ⟨bounds_i64 w0, bounds_i64 w1, w2, ht, hc⟩, rfl, hk⟩
theorem open_steps4 {base : Nat} {v : Value} {d : DataW H} {ps : List MemPlace} (hval : Value.okWide Try.prog W .any base 38 v) (h : DataW.Trod enc Try.prog W 0 (fun _ => true) true 38 v d ps) :
    ∃ (ao : Option Addr) (l : List St) (cap : Nat), v = .slice ao l.length cap ∧ Sts W W.heap.size ao l ∧ l.length + 1 ≤ Rows.uptoBulk d := by
  obtain ⟨a, len, cap, rfl⟩ := okWide_slice Try.underlying38 hval
  obtain ⟨fuel, hf⟩ := h
  rcases open_slice Try.underlying38 hf with ⟨hcs, hx⟩ | ⟨x, l', c', m, n, D, Pl, hcs, _, hl, hm, hmm, hx, hel⟩
  · simp [Value.cells] at hcs
    obtain ⟨rfl, rfl, rfl⟩ := hcs
    cases hx
    exact ⟨none, [], 0, rfl, ⟨by simp, fun h => absurd h (by simp), by simp⟩, by simp [Rows.uptoBulk]⟩
  · simp [Value.cells] at hcs
    obtain ⟨rfl, rfl, rfl⟩ := hcs
    simp only [Prod.mk.injEq] at hx
    obtain ⟨rfl, -⟩ := hx
    have hmle : len ≤ m := by rw [hmm]; simp; exact hl
    have hspot : 0 < len → x.spot = none := by
      intro h0
      obtain ⟨cs', h1, h2⟩ := hel 0 (by omega)
      rw [cStep] at h1
      obtain ⟨s, ok, rfl, _⟩ := open_step h2
      obtain ⟨_, _, hc⟩ := World.cells?_some h1
      have := World.cell?_spot (hc 0 (by simp))
      simpa [Addr.add] using this
    have each : ∀ i, i < len → ∃ s : St, s.Ok ∧ Kb W W.heap.size s.kao s.ks ∧ ∃ b off, x = ⟨b, off, none⟩ ∧ b < W.heap.size ∧ s.At W b (off + i * 7) := by
      intro i hi
      obtain ⟨cs', h1, h2⟩ := hel i (by omega)
      obtain ⟨s, ok, rfl, hk⟩ := open_step h2
      rw [cStep] at h1
      obtain ⟨_, _, hc⟩ := World.cells?_some h1
      have hsp := hspot (by omega)
      obtain ⟨b, off, spot⟩ := x
      simp only at hsp
      subst hsp
      simp only [Addr.add_mid] at hc
      have hb : b < W.heap.size := World.block_lt_of_cell? W _ (hc 0 (by simp))
      refine ⟨s, ok, hk, b, off, rfl, hb, fun k hk => ?_⟩
      have := hc k (by simpa [St.cs] using hk)
      rw [this, Array.getElem?_toList]
    obtain ⟨l, hll, hi⟩ := choose_list _ len each
    refine ⟨some x, l, cap, by rw [hll], ⟨fun y hy => ?_, fun h0 => ?_, fun y hy => ?_⟩, ?_⟩
    · obtain ⟨j, hj, rfl⟩ := List.mem_iff_getElem.1 hy
      exact (hi j hj).1
    · obtain ⟨_, _, b, off, rfl, hb, _⟩ := hi 0 h0
      refine ⟨b, off, rfl, hb, fun j hj => ?_⟩
      obtain ⟨_, _, b', off', e, _, hat⟩ := hi j hj
      cases e
      exact hat
    · obtain ⟨j, hj, rfl⟩ := List.mem_iff_getElem.1 hy
      exact (hi j hj).2.1
    · have := bulk_len (H := H) ((List.range len).map D)
      simp only [Rows.uptoBulk]
      rw [List.length_map, List.length_range] at this
      omega
theorem open_texts {base : Nat} {v : Value} {d : DataW H} {ps : List MemPlace} (hval : Value.okWide Try.prog W .any base 36 v) (h : DataW.Trod enc Try.prog W 0 (fun _ => true) true 36 v d ps) :
    ∃ (ao : Option Addr) (ls : List ByteArray) (cap : Nat), v = .slice ao ls.length cap ∧ Tb W W.heap.size ao ls ∧ ls.length + 1 ≤ Rows.uptoBulk d := by
  obtain ⟨a, len, cap, rfl⟩ := okWide_slice Try.underlying36 hval
  obtain ⟨fuel, hf⟩ := h
  rcases open_slice1 Try.underlying36 cStr hf with ⟨hcs, hx⟩ | ⟨x, l', c', m, n, V, D, Pl, hcs, _, hl, hm, hmm, hx, hel⟩
  · simp [Value.cells] at hcs
    obtain ⟨rfl, rfl, rfl⟩ := hcs
    cases hx
    exact ⟨none, [], 0, rfl, fun h0 => absurd h0 (by simp), by simp [Rows.uptoBulk]⟩
  · simp [Value.cells] at hcs
    obtain ⟨rfl, rfl, rfl⟩ := hcs
    simp only [Prod.mk.injEq] at hx
    obtain ⟨rfl, -⟩ := hx
    have hmle : len ≤ m := by rw [hmm]; simp; exact hl
    have each : ∀ i, i < len → ∃ y : ByteArray, W.cell? (x.add i) = some (.string y) := by
      intro i hi
      obtain ⟨h1, h2⟩ := hel i (by omega)
      obtain ⟨z, e, _⟩ := DataW.trod_string Try.underlying9 h2
      simp at e
      exact ⟨z, by rw [h1, e]⟩
    obtain ⟨xs, hbl, hbs⟩ := choose_list _ len each
    refine ⟨some x, xs, cap, by rw [hbl], fun h0 => ?_, ?_⟩
    · obtain ⟨b, off, spot⟩ := x
      have hs : spot = none := by
        have := World.cell?_spot (hbs 0 h0)
        simpa [Addr.add] using this
      subst hs
      refine ⟨b, off, rfl, ?_, fun j hj => ?_⟩
      · have := World.block_lt_of_cell? W _ (hbs 0 h0)
        rwa [Addr.add_mid] at this
      · have := hbs j hj
        rwa [Addr.add_mid] at this
    · have := bulk_len (H := H) ((List.range len).map D)
      simp only [Rows.uptoBulk]
      rw [List.length_map, List.length_range] at this
      omega
end
end Go.Proofs.Ytfdibmbffmgikaa
