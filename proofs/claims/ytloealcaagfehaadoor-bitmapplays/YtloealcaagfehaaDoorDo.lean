/- Steps that came in. -/
import Derived.Test.YtloealcaagfehaaDoorOpenI
namespace Go.Proofs.YtloealcaagfehaaDoor
open Go.ChangeShapes Go.WideShapes Go.ChangeAt Go.RowKit Go.Deep

/-- a step -/
structure Stq where
  kind : Int
  on : Int
  wi : Int
  i : Int
  j : Int
  s : ByteArray
def i64b (x : Int) : Prop := -9223372036854775808 ≤ x ∧ x ≤ 9223372036854775807
structure Stq.Ok (x : Stq) : Prop where
  kind : i64b x.kind
  on : i64b x.on
  wi : i64b x.wi
  i : i64b x.i
  j : i64b x.j
  s : x.s.size ≤ 9223372036854775807
def Stq.cs (x : Stq) : Array Value := #[.int .i64 x.kind, .int .i64 x.on, .int .i64 x.wi, .int .i64 x.i, .int .i64 x.j, .string x.s]
def Stq.At (x : Stq) (W : World) (b off : Nat) : Prop := ∀ k, k < 6 → W.cell? ⟨b, off + k, none⟩ = x.cs[k]?
/-- steps that lie somewhere -/
def Stqs (W : World) (ao : Option Addr) (l : List Stq) : Prop := (∀ x ∈ l, x.Ok) ∧ (0 < l.length → ∃ b off, ao = some ⟨b, off, none⟩ ∧ b < W.heap.size ∧ ∀ (j : Nat) (hj : j < l.length), l[j].At W b (off + j * 6))
theorem Stqs.keep {u u' : World} {ao : Option Addr} {l : List Stq} {B : Nat} (h : Stqs u ao l) (hb : Below B u u') (hB : u.heap.size ≤ B) : Stqs u' ao l := ⟨h.1, fun h0 => by
  obtain ⟨g, o, h1, h2, h3⟩ := h.2 h0
  exact ⟨g, o, h1, by have := hb.size; omega, fun j hj k hk => (hb.cell (p := ⟨g, o + j * 6 + k, none⟩) (by show g < B; omega)).trans (h3 j hj k hk)⟩⟩
section
variable {H : Type} {enc : TypeId × Value → H} {W : World}
theorem cellsStep : Tryd.prog.cellsOf 32 = 6 := by kernel_rfl
theorem cStr : Tryd.prog.cellsOf 9 = 1 := by kernel_rfl
theorem open_step {base fuel : Nat} {spare : Nat → Bool} {held : Bool} {cs : List Value} {x : DataW H × List MemPlace} (h : DataW.trod enc Tryd.prog W base spare held fuel 32 cs = some x) :
    ∃ s : Stq, s.Ok ∧ cs = [.int .i64 s.kind, .int .i64 s.on, .int .i64 s.wi, .int .i64 s.i, .int .i64 s.j, .string s.s] := by
  obtain ⟨xs, n, _, rfl, hl, hlen, hf⟩ := DataW.trod_struct Tryd.underlying32 h
  rw [cellsStep] at hl
  match xs, hlen, cs, hl with
  | [y0, y1, y2, y3, y4, y5], _, [v0, v1, v2, v3, v4, v5], _ =>
    have g0 : DataW.trod enc Tryd.prog W base spare held n 3 (List.take (Tryd.prog.cellsOf 3) (List.drop 0 [v0, v1, v2, v3, v4, v5])) = some y0 := hf 0 _ rfl
    rw [cInt] at g0
    have g1 : DataW.trod enc Tryd.prog W base spare held n 3 (List.take (Tryd.prog.cellsOf 3) (List.drop 1 [v0, v1, v2, v3, v4, v5])) = some y1 := hf 1 _ rfl
    rw [cInt] at g1
    have g2 : DataW.trod enc Tryd.prog W base spare held n 3 (List.take (Tryd.prog.cellsOf 3) (List.drop 2 [v0, v1, v2, v3, v4, v5])) = some y2 := hf 2 _ rfl
    rw [cInt] at g2
    have g3 : DataW.trod enc Tryd.prog W base spare held n 3 (List.take (Tryd.prog.cellsOf 3) (List.drop 3 [v0, v1, v2, v3, v4, v5])) = some y3 := hf 3 _ rfl
    rw [cInt] at g3
    have g4 : DataW.trod enc Tryd.prog W base spare held n 3 (List.take (Tryd.prog.cellsOf 3) (List.drop 4 [v0, v1, v2, v3, v4, v5])) = some y4 := hf 4 _ rfl
    rw [cInt] at g4
    have g5 : DataW.trod enc Tryd.prog W base spare held n 9 (List.take (Tryd.prog.cellsOf 9) (List.drop 5 [v0, v1, v2, v3, v4, v5])) = some y5 := hf 5 _ rfl
    rw [cStr] at g5
    obtain ⟨n0, e0, _, w0⟩ := DataW.trod_int Tryd.underlying3 g0
    obtain ⟨n1, e1, _, w1⟩ := DataW.trod_int Tryd.underlying3 g1
    obtain ⟨n2, e2, _, w2⟩ := DataW.trod_int Tryd.underlying3 g2
    obtain ⟨n3, e3, _, w3⟩ := DataW.trod_int Tryd.underlying3 g3
    obtain ⟨n4, e4, _, w4⟩ := DataW.trod_int Tryd.underlying3 g4
    obtain ⟨s5, e5, _, w5⟩ := DataW.trod_string Tryd.underlying9 g5
    simp only [List.drop_zero, List.drop_succ_cons, List.take_succ_cons, List.take_zero, List.cons.injEq, and_true] at e0 e1 e2 e3 e4 e5
    subst e0 e1 e2 e3 e4 e5
    exact ⟨⟨n0, n1, n2, n3, n4, s5⟩, ⟨bounds_i64 w0, bounds_i64 w1, bounds_i64 w2, bounds_i64 w3, bounds_i64 w4, w5⟩, rfl⟩
theorem open_steps {base : Nat} {v : Value} {d : DataW H} {ps : List MemPlace} (hval : Value.okWide Tryd.prog W .any base 22 v) (h : DataW.Trod enc Tryd.prog W 0 (fun _ => true) true 22 v d ps) :
    ∃ (ao : Option Addr) (l : List Stq) (cap : Nat), v = .slice ao l.length cap ∧ l.length ≤ 9223372036854775807 ∧ Stqs W ao l := by
  obtain ⟨a, len, cap, rfl⟩ := okWide_slice Tryd.underlying22 hval
  obtain ⟨fuel, hf⟩ := h
  rcases open_slice Tryd.underlying22 hf with ⟨hcs, hx⟩ | ⟨x, l', c', m, n, D, Pl, hcs, _, hl, hm, hmm, hx, hel⟩
  · simp [Value.cells] at hcs
    obtain ⟨rfl, rfl, rfl⟩ := hcs
    exact ⟨none, [], 0, rfl, by decide, by simp, fun h => absurd h (by simp)⟩
  · simp [Value.cells] at hcs
    obtain ⟨rfl, rfl, rfl⟩ := hcs
    have hmle : len ≤ m := by rw [hmm]; simp; exact hl
    have hspot : 0 < len → x.spot = none := by
      intro h0
      obtain ⟨cs', h1, h2⟩ := hel 0 (by omega)
      rw [cellsStep] at h1
      obtain ⟨s, ok, rfl⟩ := open_step h2
      obtain ⟨_, _, hc⟩ := World.cells?_some h1
      have := World.cell?_spot (hc 0 (by simp))
      simpa [Addr.add] using this
    have each : ∀ i, i < len → ∃ s : Stq, s.Ok ∧ ∃ b off, x = ⟨b, off, none⟩ ∧ b < W.heap.size ∧ s.At W b (off + i * 6) := by
      intro i hi
      obtain ⟨cs', h1, h2⟩ := hel i (by omega)
      obtain ⟨s, ok, rfl⟩ := open_step h2
      rw [cellsStep] at h1
      obtain ⟨_, _, hc⟩ := World.cells?_some h1
      have hsp := hspot (by omega)
      obtain ⟨b, off, spot⟩ := x
      simp only at hsp
      subst hsp
      simp only [Addr.add_mid] at hc
      have hb : b < W.heap.size := World.block_lt_of_cell? W _ (hc 0 (by decide))
      refine ⟨s, ok, b, off, rfl, hb, fun k hk => ?_⟩
      match k, hk with
      | 0, _ => exact hc 0 (by decide)
      | 1, _ => exact hc 1 (by decide)
      | 2, _ => exact hc 2 (by decide)
      | 3, _ => exact hc 3 (by decide)
      | 4, _ => exact hc 4 (by decide)
      | 5, _ => exact hc 5 (by decide)
    obtain ⟨l, hll, hi⟩ := choose_list _ len each
    refine ⟨some x, l, cap, by rw [hll], by unfold maxLen at hm; omega, fun y hy => ?_, fun h0 => ?_⟩
    · obtain ⟨j, hj, rfl⟩ := List.mem_iff_getElem.1 hy
      exact (hi j hj).1
    · obtain ⟨_, b, off, rfl, hb, _⟩ := hi 0 h0
      refine ⟨b, off, rfl, hb, fun j hj => ?_⟩
      obtain ⟨_, b', off', e, _, hat⟩ := hi j hj
      cases e
      exact hat
end
end Go.Proofs.YtloealcaagfehaaDoor
