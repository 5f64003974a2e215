/- What came in: steps of replicas. -/
import Derived.Test.YtpepgealeanecaaGyd
import Derived.Test.YtpepgealeanecaaHallB
import Derived.Deep.Slices
namespace Go.Proofs.Ytpepgealeanecaa
open Go.ChangeShapes Go.WideShapes Go.ChangeAt Go.RowKit Go.Deep

section
variable {H : Type} {enc : TypeId × Value → H} {W : World}
theorem choose_list {α : Type} (p : Nat → α → Prop) (n : Nat) (hp : ∀ i, i < n → ∃ x, p i x) : ∃ l : List α, l.length = n ∧ ∀ (j : Nat) (hj : j < l.length), p j l[j] := by
  induction n with
  | zero => exact ⟨[], rfl, by intro j hj; simp at hj⟩
  | succ k ih =>
    obtain ⟨l, hl, hi⟩ := ih (fun i hi => hp i (by omega))
    obtain ⟨x, hx⟩ := hp k (by omega)
    refine ⟨l ++ [x], by simp [hl], fun j hj => ?_⟩
    by_cases hjk : j < l.length
    · rw [List.getElem_append_left hjk]; exact hi j hjk
    · have e : j = k := by simp [hl] at hj; omega
      subst e
      rw [List.getElem_append_right (by omega)]
      simpa [hl] using hx
theorem cU8 : Try.prog.cellsOf 5 = 1 := by kernel_rfl
theorem cI16 : Try.prog.cellsOf 56 = 1 := by kernel_rfl
theorem cCount : Try.prog.cellsOf 58 = 2 := by kernel_rfl
theorem bCount : Try.prog.bytesOf 58 = 4 := by kernel_rfl
set_option maxRecDepth 100000 in
theorem open_count {fuel : Nat} {cs : List Value} {x : DataW H × List MemPlace} (h : DataW.trod enc Try.prog W 0 (fun _ => true) true fuel 58 cs = some x) :
    ∃ s : Nat × Int, cs = [.int .u8 (s.1 : Int), .int .i16 s.2] ∧ s.1 < 256 ∧ -32768 ≤ s.2 ∧ s.2 ≤ 32767 := by
  obtain ⟨xs, n, _, rfl, hl, hlen, hf⟩ := DataW.trod_struct Try.underlying58 h
  rw [cCount] at hl
  match xs, hlen, cs, hl with
  | [y0, y1], _, [v0, v1], _ =>
    have g0 : DataW.trod enc Try.prog W 0 (fun _ => true) true n 5 (List.take (Try.prog.cellsOf 5) (List.drop 0 [v0, v1])) = some y0 := hf 0 _ rfl
    rw [cU8] at g0
    have g1 : DataW.trod enc Try.prog W 0 (fun _ => true) true n 56 (List.take (Try.prog.cellsOf 56) (List.drop 1 [v0, v1])) = some y1 := hf 1 _ rfl
    rw [cI16] at g1
    obtain ⟨n0, e0, _, w0⟩ := DataW.trod_int Try.underlying5 g0
    obtain ⟨n1, e1, _, w1⟩ := DataW.trod_int Try.underlying56 g1
    simp only [List.drop_zero, List.drop_succ_cons, List.take_succ_cons, List.take_zero, List.cons.injEq, and_true] at e0 e1
    subst e0 e1
    have b0 : 0 ≤ n0 ∧ n0 ≤ 255 := bounds_u8 w0
    have b1 : -32768 ≤ n1 ∧ n1 ≤ 32767 := bounds_i16 w1
    have t0 : ((n0.toNat : Nat) : Int) = n0 := Int.toNat_of_nonneg b0.1
    refine ⟨(n0.toNat, n1), ?_, ?_, b1.1, b1.2⟩
    · simp only [t0]
    · have : ((n0.toNat : Nat) : Int) ≤ 255 := by rw [t0]; exact b0.2
      show n0.toNat < 256
      omega
set_option maxRecDepth 100000 in
theorem open_counts {base : Nat} {v : Value} {d : DataW H} {ps : List MemPlace} (hval : Value.okWide Try.prog W .any base 54 v) (h : DataW.Trod enc Try.prog W 0 (fun _ => true) true 54 v d ps) (hz : (DataW.weights Try.prog 54 d).all (· ≤ reachBytes) = true) :
    ∃ (ao : Option Addr) (l : List (Nat × Int)) (cap : Nat), v = .slice ao l.length cap ∧ Cs W ao l := by
  obtain ⟨a, len, cap, rfl⟩ := okWide_slice Try.underlying54 hval
  obtain ⟨fuel, hf⟩ := h
  rcases open_slice Try.underlying54 hf with ⟨hcs, hx⟩ | ⟨x, l', c', m, n, D, Pl, hcs, _, hl, hm, hmm, hx, hel⟩
  · simp [Value.cells] at hcs
    obtain ⟨rfl, rfl, rfl⟩ := hcs
    exact ⟨none, [], 0, rfl, fun h => absurd h (by simp), by simp, by simp⟩
  · simp [Value.cells] at hcs
    obtain ⟨rfl, rfl, rfl⟩ := hcs
    simp only [Prod.mk.injEq] at hx
    obtain ⟨rfl, -⟩ := hx
    have hmle : len ≤ m := by rw [hmm]; simp; exact hl
    have hall := List.all_eq_true.1 hz
    have hlen : len * 4 ≤ reachBytes := by
      have h1 := hall _ (by simp only [DataW.weights, Try.underlying54]; exact List.mem_cons_self ..)
      simp only [decide_eq_true_eq, List.length_map, List.length_range, bCount] at h1
      have : (len + ((List.range (m - len)).map fun i => D (len + i)).length) * 4 ≤ reachBytes := by simpa using h1
      omega
    have hspot : 0 < len → x.spot = none := by
      intro h0
      obtain ⟨cs', h1, h2⟩ := hel 0 (by omega)
      rw [cCount] at h1
      obtain ⟨s, rfl, _⟩ := open_count h2
      obtain ⟨_, _, hc⟩ := World.cells?_some h1
      have := World.cell?_spot (hc 0 (by simp))
      simpa [Addr.add] using this
    have each : ∀ i, i < len → ∃ s : Nat × Int, (s.1 < 256 ∧ -32768 ≤ s.2 ∧ s.2 ≤ 32767) ∧ ∃ b off, x = ⟨b, off, none⟩ ∧ W.rangeAt b (off + i * 2) [.int .u8 (s.1 : Int), .int .i16 s.2] := by
      intro i hi
      obtain ⟨cs', h1, h2⟩ := hel i (by omega)
      obtain ⟨s, rfl, hb⟩ := open_count h2
      rw [cCount] at h1
      obtain ⟨_, _, hc⟩ := World.cells?_some h1
      have hsp := hspot (by omega)
      obtain ⟨b, off, spot⟩ := x
      simp only at hsp
      subst hsp
      simp only [Addr.add_mid] at hc
      refine ⟨s, hb, b, off, rfl, fun k v hv => ?_⟩
      obtain ⟨hk7, _⟩ := List.getElem?_eq_some_iff.1 hv
      exact (hc k hk7).trans hv
    obtain ⟨l, hll, hi⟩ := choose_list _ len each
    refine ⟨some x, l, cap, by rw [hll], fun h0 => ?_, ?_, fun y hy => ?_⟩
    · obtain ⟨_, b, off, rfl, _⟩ := hi 0 h0
      refine ⟨b, off, rfl, fun j hj => ?_⟩
      obtain ⟨_, b', off', e, hat⟩ := hi j hj
      cases e
      exact hat
    · rw [hll]
      have : reachBytes ≤ 140737488355328 := by decide
      omega
    · obtain ⟨j, hj, rfl⟩ := List.mem_iff_getElem.1 hy
      exact (hi j hj).1
end
end Go.Proofs.Ytpepgealeanecaa
