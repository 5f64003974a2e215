/- What came in: bytes, whole numbers, a state. -/
import Derived.Test.YtpbifpbblinopaaLent
import Derived.Test.YtpbifpbblinopaaShQ
import Derived.Test.YtpbifpbblinopaaHallD
import Derived.OpenShut
import Derived.SizedLaws
namespace Go.Proofs.Ytpbifpbblinopaa
open Go.ChangeShapes Go.WideShapes Go.ChangeAt Go.RowKit Go.Deep

section
variable {H : Type} {enc : TypeId × Value → H} {W : World}
theorem cU8 : Try.prog.cellsOf 5 = 1 := by kernel_rfl
theorem cU32 : Try.prog.cellsOf 22 = 1 := by kernel_rfl
theorem choose_list {α : Type} (p : Nat → α → Prop) (n : Nat) (hp : ∀ i, i < n → ∃ x, p i x) : ∃ l : List α, l.length = n ∧ ∀ (j : Nat) (hj : j < l.length), p j l[j] := by
  induction n with
  | zero => exact ⟨[], rfl, by intro j hj; simp at hj⟩
  | succ k ih =>
    obtain ⟨l, hl, hi⟩ := ih (fun i hi => hp i (by omega))
    obtain ⟨x, hx⟩ := hp k (by omega)
    refine ⟨l ++ [x], by simp [hl], fun j hj => ?_⟩
    by_cases hjk : j < l.length
    · rw [List.getElem_append_left hjk]; exact hi j hjk
    · have e : j = k := by simp [hl] at hj; omega
      subst e
      rw [List.getElem_append_right (by omega)]
      simpa [hl] using hx
/-- a slice of bytes -/
theorem open_bytes {base : Nat} {v : Value} {d : DataW H} {ps : List MemPlace} (hval : Value.okWide Try.prog W .any base 24 v) (h : DataW.Trod enc Try.prog W 0 (fun _ => true) true 24 v d ps) :
    ∃ (ao : Option Addr) (bs : List UInt8) (cap : Nat), v = .slice ao bs.length cap ∧ bs.length ≤ cap ∧ Lies W ao bs ∧ (bs = [] ∨ ∃ el sp, d = .slice el sp ∧ el.length = bs.length) := by
  obtain ⟨a, len, cap, rfl⟩ := okWide_slice Try.underlying24 hval
  obtain ⟨fuel, hf⟩ := h
  rcases open_slice1 Try.underlying24 cU8 hf with ⟨hcs, hx⟩ | ⟨x, l', c', m, n, V, D, Pl, hcs, _, hl, hm, hmm, hx, hel⟩
  · simp [Value.cells] at hcs
    obtain ⟨rfl, rfl, rfl⟩ := hcs
    exact ⟨none, [], 0, rfl, Nat.le_refl _, fun h0 => absurd h0 (by simp), .inl rfl⟩
  · simp [Value.cells] at hcs
    obtain ⟨rfl, rfl, rfl⟩ := hcs
    simp only [Prod.mk.injEq] at hx
    obtain ⟨rfl, -⟩ := hx
    have hmle : len ≤ m := by rw [hmm]; simp; exact hl
    have each : ∀ i, i < len → ∃ y : UInt8, W.cell? (x.add i) = some (.int .u8 (y.toNat : Int)) := by
      intro i hi
      obtain ⟨h1, h2⟩ := hel i (by omega)
      obtain ⟨z, e, _, hw⟩ := DataW.trod_int Try.underlying5 h2
      have hb := bounds_u8 hw
      obtain ⟨k, rfl⟩ := Int.eq_ofNat_of_zero_le hb.1
      simp at e
      refine ⟨UInt8.ofNat k, ?_⟩
      rw [h1, e, UInt8.toNat_ofNat', Nat.mod_eq_of_lt (by omega)]
    obtain ⟨bs, hbl, hbs⟩ := choose_list _ len each
    refine ⟨some x, bs, cap, by rw [hbl], by omega, fun h0 => ?_, .inr ⟨_, _, rfl, by simp [hbl]⟩⟩
    obtain ⟨b, off, spot⟩ := x
    have hs : spot = none := by
      have := World.cell?_spot (hbs 0 h0)
      simpa [Addr.add] using this
    subst hs
    refine ⟨b, off, rfl, ?_, fun j hj => ?_⟩
    · have := World.block_lt_of_cell? W _ (hbs 0 h0)
      rwa [Addr.add_mid] at this
    · have := hbs j hj
      rwa [Addr.add_mid] at this
/-- a state -/
theorem open_state {base : Nat} {v : Value} {d : DataW H} {ps : List MemPlace} (hval : Value.okWide Try.prog W .any base 23 v) (h : DataW.Trod enc Try.prog W 0 (fun _ => true) true 23 v d ps) :
    ∃ s : Sha.St, v = .agg (St8 s) ∧ Ok s := by
  obtain ⟨cs, rfl, hsz⟩ : ∃ cs, v = .agg cs ∧ cs.size = Try.prog.cellsOf 23 := by
    unfold Value.okWide at hval
    rw [Try.underlying23] at hval
    obtain ⟨cs, h1, h2, _⟩ := hval
    exact ⟨cs, h1, h2⟩
  have hsz8 : cs.size = 8 := by rw [hsz]; kernel_rfl
  obtain ⟨fuel, hf⟩ := h
  obtain ⟨xs, m, _, _, _, hxl, hel⟩ := DataW.trod_array Try.underlying23 hf
  have each : ∀ i, i < 8 → ∃ k : Nat, cs[i]? = some (.int .u32 (k : Int)) ∧ k < 4294967296 := by
    intro i hi
    have h1 := hel i hi
    rw [cU32, List.getElem?_eq_getElem (by omega)] at h1
    obtain ⟨z, e, _, hw⟩ := DataW.trod_int Try.underlying22 h1
    have hb := bounds_u32 hw
    obtain ⟨k, rfl⟩ := Int.eq_ofNat_of_zero_le hb.1
    refine ⟨k, ?_, by omega⟩
    have e2 : (List.take 1 (List.drop (i * 1) (Value.agg cs).cells.toList))[0]? = some (.int .u32 (k : Int)) := by rw [e]; rfl
    rw [List.getElem?_take_of_lt (by decide), List.getElem?_drop, Nat.mul_one, Nat.add_zero] at e2
    simpa [Value.cells] using e2
  obtain ⟨l, hl, hi⟩ := choose_list _ 8 each
  match l, hl, hi with
  | [a, b, c, d, e, f, g, h], _, hi =>
    refine ⟨⟨a, b, c, d, e, f, g, h⟩, ?_, ⟨(hi 0 (by simp)).2, (hi 1 (by simp)).2, (hi 2 (by simp)).2, (hi 3 (by simp)).2, (hi 4 (by simp)).2, (hi 5 (by simp)).2, (hi 6 (by simp)).2, (hi 7 (by simp)).2⟩⟩
    rw [Is32.eq8 (cs := cs) (s := ⟨a, b, c, d, e, f, g, h⟩) ⟨hsz8, fun j hj => ?_⟩]
    match j, hj with
    | 0, _ => exact (hi 0 (by simp)).1
    | 1, _ => exact (hi 1 (by simp)).1
    | 2, _ => exact (hi 2 (by simp)).1
    | 3, _ => exact (hi 3 (by simp)).1
    | 4, _ => exact (hi 4 (by simp)).1
    | 5, _ => exact (hi 5 (by simp)).1
    | 6, _ => exact (hi 6 (by simp)).1
    | 7, _ => exact (hi 7 (by simp)).1
/-- whole numbers that lie somewhere -/
def LiesI (u : World) (ao : Option Addr) (xs : List Int) : Prop := 0 < xs.length → ∃ g o, ao = some ⟨g, o, none⟩ ∧ g < u.heap.size ∧ ∀ (j : Nat) (hj : j < xs.length), u.cell? ⟨g, o + j, none⟩ = some (.int .i64 xs[j])
theorem LiesI.keep {u u' : World} {ao : Option Addr} {xs : List Int} {B : Nat} (h : LiesI u ao xs) (hb : Below B u u') (hB : u.heap.size ≤ B) : LiesI u' ao xs := fun h0 => by
  obtain ⟨g, o, h1, h2, h3⟩ := h h0
  exact ⟨g, o, h1, by have := hb.size; omega, fun j hj => (hb.cell (p := ⟨g, o + j, none⟩) (by show g < B; omega)).trans (h3 j hj)⟩
theorem cInt : Try.prog.cellsOf 3 = 1 := by kernel_rfl
theorem open_ints {base : Nat} {v : Value} {d : DataW H} {ps : List MemPlace} (hval : Value.okWide Try.prog W .any base 57 v) (h : DataW.Trod enc Try.prog W 0 (fun _ => true) true 57 v d ps) :
    ∃ (ao : Option Addr) (xs : List Int) (cap : Nat), v = .slice ao xs.length cap ∧ xs.length ≤ 9223372036854775807 ∧ LiesI W ao xs ∧ ∀ x ∈ xs, -9223372036854775808 ≤ x ∧ x ≤ 9223372036854775807 := by
  obtain ⟨a, len, cap, rfl⟩ := okWide_slice Try.underlying57 hval
  obtain ⟨fuel, hf⟩ := h
  rcases open_slice1 Try.underlying57 cInt hf with ⟨hcs, hx⟩ | ⟨x, l', c', m, n, V, D, Pl, hcs, _, hl, hm, hmm, hx, hel⟩
  · simp [Value.cells] at hcs
    obtain ⟨rfl, rfl, rfl⟩ := hcs
    exact ⟨none, [], 0, rfl, by decide, fun h0 => absurd h0 (by simp), by simp⟩
  · simp [Value.cells] at hcs
    obtain ⟨rfl, rfl, rfl⟩ := hcs
    have hmle : len ≤ m := by rw [hmm]; simp; exact hl
    have each : ∀ i, i < len → ∃ y : Int, W.cell? (x.add i) = some (.int .i64 y) ∧ -9223372036854775808 ≤ y ∧ y ≤ 9223372036854775807 := by
      intro i hi
      obtain ⟨h1, h2⟩ := hel i (by omega)
      obtain ⟨z, e, _, hw⟩ := DataW.trod_int Try.underlying3 h2
      simp at e
      exact ⟨z, by rw [h1, e], bounds_i64 hw⟩
    obtain ⟨xs, hbl, hbs⟩ := choose_list _ len each
    refine ⟨some x, xs, cap, by rw [hbl], by unfold maxLen at hm; omega, fun h0 => ?_, fun y hy => ?_⟩
    · obtain ⟨b, off, spot⟩ := x
      have hs : spot = none := by
        have := World.cell?_spot (hbs 0 h0).1
        simpa [Addr.add] using this
      subst hs
      refine ⟨b, off, rfl, ?_, fun j hj => ?_⟩
      · have := World.block_lt_of_cell? W _ (hbs 0 h0).1
        rwa [Addr.add_mid] at this
      · have := (hbs j hj).1
        rwa [Addr.add_mid] at this
    · obtain ⟨j, hj, rfl⟩ := List.mem_iff_getElem.1 hy
      exact (hbs j hj).2
theorem bytesOfU8 : Try.prog.bytesOf 5 = 1 := by kernel_rfl
end
end Go.Proofs.Ytpbifpbblinopaa
