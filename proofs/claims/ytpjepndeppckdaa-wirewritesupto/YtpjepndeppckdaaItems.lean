/- A list of items that came in. -/
import Derived.Test.YtpjepndeppckdaaWr
import Derived.Deep.Slices
namespace Go.Proofs.Ytpjepndeppckdaa
open Go.ChangeShapes Go.WideShapes Go.ChangeAt Go.RowKit Go.Lib Go.Deep

/-- an item -/
structure It where
  who : Int
  kind : Int
  n : Int
  v : Nat
  s : ByteArray
/-- its numbers fit -/
structure It.Ok (x : It) : Prop where
  who : -9223372036854775808 ≤ x.who ∧ x.who ≤ 9223372036854775807
  kind : -9223372036854775808 ≤ x.kind ∧ x.kind ≤ 9223372036854775807
  n : -9223372036854775808 ≤ x.n ∧ x.n ≤ 9223372036854775807
  v : x.v < 18446744073709551616
/-- an item as data -/
def It.data {H : Type} (x : It) : DataW H := .agg [.lit (.int .i64 x.who), .lit (.int .i64 x.kind), .lit (.int .i64 x.n), .lit (.int .u64 x.v), .lit (.string x.s.data.toList)]
/-- an item's cells -/
structure It.At (x : It) (w : World) (b o : Nat) : Prop where
  c0 : w.cell? ⟨b, o, none⟩ = some (.int .i64 x.who)
  c1 : w.cell? ⟨b, o + 1, none⟩ = some (.int .i64 x.kind)
  c2 : w.cell? ⟨b, o + 2, none⟩ = some (.int .i64 x.n)
  c3 : w.cell? ⟨b, o + 3, none⟩ = some (.int .u64 x.v)
  c4 : w.cell? ⟨b, o + 4, none⟩ = some (.string x.s)
theorem It.At.below {x : It} {w w' : World} {b o B : Nat} (h : x.At w b o) (hb : Below B w w') (hB : b < B) : x.At w' b o :=
  ⟨(hb.cell (p := ⟨b, o, none⟩) hB).trans h.c0, (hb.cell (p := ⟨b, o + 1, none⟩) hB).trans h.c1, (hb.cell (p := ⟨b, o + 2, none⟩) hB).trans h.c2, (hb.cell (p := ⟨b, o + 3, none⟩) hB).trans h.c3, (hb.cell (p := ⟨b, o + 4, none⟩) hB).trans h.c4⟩
/-- a list of items at a slice -/
def Its (w : World) (a : Option Addr) (len : Nat) (l : List It) : Prop :=
  l.length = len ∧ len ≤ 9223372036854775807 ∧ (∀ x ∈ l, x.Ok) ∧ (len = 0 ∨ ∃ b off, a = some ⟨b, off, none⟩ ∧ b < w.heap.size ∧ ∀ (j : Nat) (x : It), l[j]? = some x → x.At w b (off + j * 5))
theorem cellsItem : Try.prog.cellsOf 28 = 5 := by kernel_rfl
theorem cInt : Try.prog.cellsOf 3 = 1 := by kernel_rfl
theorem cU64 : Try.prog.cellsOf 26 = 1 := by kernel_rfl
theorem cStr : Try.prog.cellsOf 9 = 1 := by kernel_rfl
section
variable {H : Type} {enc : TypeId × Value → H} {W : World}
theorem open_item {base fuel : Nat} {spare : Nat → Bool} {held : Bool} {cs : List Value} {x : DataW H × List MemPlace} (h : DataW.trod enc Try.prog W base spare held fuel 28 cs = some x) :
    ∃ it : It, it.Ok ∧ x.1 = it.data ∧ cs = [.int .i64 it.who, .int .i64 it.kind, .int .i64 it.n, .int .u64 it.v, .string it.s] := by
  obtain ⟨xs, n, _, rfl, hl, hlen, hf⟩ := DataW.trod_struct Try.underlying28 h
  rw [cellsItem] at hl
  match xs, hlen, cs, hl with
  | [y0, y1, y2, y3, y4], _, [v0, v1, v2, v3, v4], _ =>
    have g0 : DataW.trod enc Try.prog W base spare held n 3 (List.take (Try.prog.cellsOf 3) (List.drop 0 [v0, v1, v2, v3, v4])) = some y0 := hf 0 _ rfl
    rw [cInt] at g0
    have g1 : DataW.trod enc Try.prog W base spare held n 3 (List.take (Try.prog.cellsOf 3) (List.drop 1 [v0, v1, v2, v3, v4])) = some y1 := hf 1 _ rfl
    rw [cInt] at g1
    have g2 : DataW.trod enc Try.prog W base spare held n 3 (List.take (Try.prog.cellsOf 3) (List.drop 2 [v0, v1, v2, v3, v4])) = some y2 := hf 2 _ rfl
    rw [cInt] at g2
    have g3 : DataW.trod enc Try.prog W base spare held n 26 (List.take (Try.prog.cellsOf 26) (List.drop 3 [v0, v1, v2, v3, v4])) = some y3 := hf 3 _ rfl
    rw [cU64] at g3
    have g4 : DataW.trod enc Try.prog W base spare held n 9 (List.take (Try.prog.cellsOf 9) (List.drop 4 [v0, v1, v2, v3, v4])) = some y4 := hf 4 _ rfl
    rw [cStr] at g4
    obtain ⟨n0, e0, rfl, w0⟩ := DataW.trod_int Try.underlying3 g0
    obtain ⟨n1, e1, rfl, w1⟩ := DataW.trod_int Try.underlying3 g1
    obtain ⟨n2, e2, rfl, w2⟩ := DataW.trod_int Try.underlying3 g2
    obtain ⟨n3, e3, rfl, w3⟩ := DataW.trod_int Try.underlying26 g3
    obtain ⟨s4, e4, rfl, w4⟩ := DataW.trod_string Try.underlying9 g4
    simp only [List.drop_zero, List.drop_succ_cons, List.take_succ_cons, List.take_zero, List.cons.injEq, and_true] at e0 e1 e2 e3 e4
    subst e0 e1 e2 e3 e4
    have b3 := bounds_u64 w3
    obtain ⟨m3, rfl⟩ := Int.eq_ofNat_of_zero_le b3.1
    exact ⟨⟨n0, n1, n2, m3, s4⟩, ⟨bounds_i64 w0, bounds_i64 w1, bounds_i64 w2, by show m3 < _; omega⟩, rfl, rfl⟩
theorem list_of {α : Type} (p : Nat → α → Prop) (len : Nat) (hp : ∀ i, i < len → ∃ x, p i x) : ∃ l : List α, l.length = len ∧ ∀ (j : Nat) (x : α), l[j]? = some x → p j x := by
  induction len with
  | zero => exact ⟨[], rfl, by intro j it h; simp at h⟩
  | succ k ih =>
    obtain ⟨l, hl, hi⟩ := ih (fun i hi => hp i (by omega))
    obtain ⟨it, hit⟩ := hp k (by omega)
    refine ⟨l ++ [it], by simp [hl], fun j it' h => ?_⟩
    by_cases hj : j < k
    · rw [List.getElem?_append_left (by omega)] at h
      exact hi j it' h
    · have hjl := (List.getElem?_eq_some_iff.1 h).1
      simp [hl] at hjl
      have : j = k := by omega
      subst this
      rw [List.getElem?_append_right (by omega)] at h
      simp [hl] at h
      subst h
      exact hit
theorem add_at (b off k : Nat) : (⟨b, off, none⟩ : Addr).add k = ⟨b, off + k, none⟩ := by
  cases k <;> simp [Addr.add]
theorem open_items {base : Nat} {v : Value} {d : DataW H} {ps : List MemPlace} (hval : Value.okWide Try.prog W .any base 44 v) (h : DataW.Trod enc Try.prog W 0 (fun _ => true) true 44 v d ps) :
    ∃ a len cap l, v = .slice a len cap ∧ Its W a len l ∧ (d = .nil ∧ l = [] ∨ ∃ sp, d = .slice (l.map It.data) sp) := by
  obtain ⟨a, len, cap, rfl⟩ := okWide_slice Try.underlying44 hval
  obtain ⟨fuel, hf⟩ := h
  rcases open_slice Try.underlying44 hf with ⟨hcs, hx⟩ | ⟨x, l', c', m, n, D, Pl, hcs, _, hl, hm, hmm, hx, hel⟩
  · simp [Value.cells] at hcs
    obtain ⟨rfl, rfl, rfl⟩ := hcs
    cases hx
    exact ⟨none, 0, 0, [], rfl, ⟨rfl, by decide, by simp, .inl rfl⟩, .inl ⟨rfl, rfl⟩⟩
  · simp [Value.cells] at hcs
    obtain ⟨rfl, rfl, rfl⟩ := hcs
    simp only [Prod.mk.injEq] at hx
    obtain ⟨rfl, -⟩ := hx
    have hmle : len ≤ m := by rw [hmm]; simp; exact hl
    have hspot : 0 < len → x.spot = none := by
      intro h0
      obtain ⟨cs', h1, h2⟩ := hel 0 (by omega)
      rw [cellsItem] at h1
      obtain ⟨it, ok, hd, rfl⟩ := open_item h2
      obtain ⟨_, _, hc⟩ := World.cells?_some h1
      have := World.cell?_spot (hc 0 (by decide))
      simpa [Addr.add] using this
    have each : ∀ i, i < len → ∃ it : It, it.Ok ∧ D i = it.data ∧ ∃ b off, x = ⟨b, off, none⟩ ∧ b < W.heap.size ∧ it.At W b (off + i * 5) := by
      intro i hi
      have hsp := hspot (by omega)
      obtain ⟨cs', h1, h2⟩ := hel i (by omega)
      obtain ⟨it, ok, hd, rfl⟩ := open_item h2
      rw [cellsItem] at h1
      obtain ⟨_, _, hc⟩ := World.cells?_some h1
      obtain ⟨b, off, spot⟩ := x
      simp only at hsp
      subst hsp
      simp only [add_at] at hc
      have hb : b < W.heap.size := by
        have h0 := hc 0 (by decide)
        by_cases hb : b < W.heap.size
        · exact hb
        · exfalso
          have : W.heap[b]? = none := Array.getElem?_eq_none (by omega)
          simp [World.cell?, this] at h0
      exact ⟨it, ok, hd, b, off, rfl, hb, hc 0 (by decide), hc 1 (by decide), hc 2 (by decide), hc 3 (by decide), hc 4 (by decide)⟩
    have hex := list_of _ len each
    obtain ⟨l, hll, hi⟩ := hex
    refine ⟨some x, len, cap, l, rfl, ⟨hll, by unfold maxLen at hm; omega, ?_, ?_⟩, .inr ⟨(List.range (m - len)).map (fun j => D (len + j)), ?_⟩⟩
    · intro y hy
      obtain ⟨j, hj⟩ := List.mem_iff_getElem?.1 hy
      exact (hi j y hj).1
    · by_cases h0 : len = 0
      · exact .inl h0
      · right
        obtain ⟨y, hy⟩ : ∃ y, l[0]? = some y := ⟨l[0]'(by omega), by simp [List.getElem?_eq_getElem (show 0 < l.length by omega)]⟩
        obtain ⟨_, _, b, off, rfl, hb, _⟩ := hi 0 y hy
        refine ⟨b, off, rfl, hb, fun j z hz => ?_⟩
        obtain ⟨_, _, b', off', e, _, hat⟩ := hi j z hz
        cases e
        exact hat
    · congr 1
      apply List.ext_getElem?
      intro j
      by_cases hj : j < len
      · have hjl : j < l.length := by omega
        rw [List.getElem?_map, List.getElem?_map, List.getElem?_range hj, List.getElem?_eq_getElem hjl]
        simp only [Option.map_some]
        rw [(hi j _ (List.getElem?_eq_getElem hjl)).2.1]
      · rw [List.getElem?_eq_none (by simp; omega), List.getElem?_eq_none (by simp; omega)]
end
end Go.Proofs.Ytpjepndeppckdaa
