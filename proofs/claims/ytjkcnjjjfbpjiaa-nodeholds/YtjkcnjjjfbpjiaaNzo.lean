/- What came in: the steps of NodeHolds. -/
import Derived.Test.YtjkcnjjjfbpjiaaNz
import Derived.Test.YtjkcnjjjfbpjiaaHallB
import Derived.Deep.Slices
namespace Go.Proofs.Ytjkcnjjjfbpjiaa
open Go.ChangeShapes Go.WideShapes Go.ChangeAt Go.RowKit Go.Deep

section
variable {H : Type} {enc : TypeId × Value → H} {W : World}
theorem choose_list {α : Type} (p : Nat → α → Prop) (n : Nat) (hp : ∀ i, i < n → ∃ x, p i x) : ∃ l : List α, l.length = n ∧ ∀ (j : Nat) (hj : j < l.length), p j l[j] := by
  induction n with
  | zero => exact ⟨[], rfl, by intro j hj; simp at hj⟩
  | succ k ih =>
    obtain ⟨l, hl, hi⟩ := ih (fun i hi => hp i (by omega))
    obtain ⟨x, hx⟩ := hp k (by omega)
    refine ⟨l ++ [x], by simp [hl], fun j hj => ?_⟩
    by_cases hjk : j < l.length
    · rw [List.getElem_append_left hjk]; exact hi j hjk
    · have e : j = k := by simp [hl] at hj; omega
      subst e
      rw [List.getElem_append_right (by omega)]
      simpa [hl] using hx
theorem cBool : Try.prog.cellsOf 4 = 1 := by kernel_rfl
theorem cStr : Try.prog.cellsOf 9 = 1 := by kernel_rfl
theorem cCut : Try.prog.cellsOf 64 = 3 := by kernel_rfl
theorem bCut : Try.prog.bytesOf 64 = 40 := by kernel_rfl
set_option maxRecDepth 100000 in
theorem open_cut {fuel : Nat} {cs : List Value} {x : DataW H × List MemPlace} (h : DataW.trod enc Try.prog W 0 (fun _ => true) true fuel 64 cs = some x) :
    ∃ s : Ct, cs = s.cs ∧ s.key.size ∈ x.1.weights Try.prog 64 ∧ s.val.size ∈ x.1.weights Try.prog 64 := by
  obtain ⟨xs, n, _, rfl, hl, hlen, hf⟩ := DataW.trod_struct Try.underlying64 h
  rw [cCut] at hl
  match xs, hlen, cs, hl with
  | [y0, y1, y2], _, [v0, v1, v2], _ =>
    have g0 : DataW.trod enc Try.prog W 0 (fun _ => true) true n 4 (List.take (Try.prog.cellsOf 4) (List.drop 0 [v0, v1, v2])) = some y0 := hf 0 _ rfl
    rw [cBool] at g0
    have g1 : DataW.trod enc Try.prog W 0 (fun _ => true) true n 9 (List.take (Try.prog.cellsOf 9) (List.drop 1 [v0, v1, v2])) = some y1 := hf 1 _ rfl
    rw [cStr] at g1
    have g2 : DataW.trod enc Try.prog W 0 (fun _ => true) true n 9 (List.take (Try.prog.cellsOf 9) (List.drop 2 [v0, v1, v2])) = some y2 := hf 2 _ rfl
    rw [cStr] at g2
    obtain ⟨b0, e0, _⟩ := DataW.trod_bool Try.underlying4 g0
    obtain ⟨s1, e1, f1, _⟩ := DataW.trod_string Try.underlying9 g1
    obtain ⟨s2, e2, f2, _⟩ := DataW.trod_string Try.underlying9 g2
    simp only [List.drop_zero, List.drop_succ_cons, List.take_succ_cons, List.take_zero, List.cons.injEq, and_true] at e0 e1 e2
    subst e0 e1 e2
    refine ⟨⟨b0, s1, s2⟩, rfl, ?_, ?_⟩
    · show s1.size ∈ DataW.weights Try.prog 64 (.agg [y0.1, y1.1, y2.1])
      rw [f1]
      simp [DataW.weights, Try.underlying64, DataW.weightsEach]
    · show s2.size ∈ DataW.weights Try.prog 64 (.agg [y0.1, y1.1, y2.1])
      rw [f2]
      simp [DataW.weights, Try.underlying64, DataW.weightsEach]
theorem weights_all {P : Program} {e : TypeId} : ∀ {l : List (DataW H)} {d : DataW H} {n : Nat}, d ∈ l → n ∈ d.weights P e → n ∈ DataW.weightsAll P e l
  | [], _, _, h, _ => by cases h
  | x :: r, d, n, h, hn => by
    simp only [DataW.weightsAll, List.mem_append]
    rcases List.mem_cons.1 h with rfl | h
    · exact .inl hn
    · exact .inr (weights_all h hn)
set_option maxRecDepth 100000 in
theorem open_cuts {base : Nat} {v : Value} {d : DataW H} {ps : List MemPlace} (hval : Value.okWide Try.prog W .any base 62 v) (h : DataW.Trod enc Try.prog W 0 (fun _ => true) true 62 v d ps) (hz : (DataW.weights Try.prog 62 d).all (· ≤ reachBytes) = true) :
    ∃ (ao : Option Addr) (l : List Ct) (cap : Nat), v = .slice ao l.length cap ∧ Cts W ao l := by
  obtain ⟨a, len, cap, rfl⟩ := okWide_slice Try.underlying62 hval
  obtain ⟨fuel, hf⟩ := h
  rcases open_slice Try.underlying62 hf with ⟨hcs, hx⟩ | ⟨x, l', c', m, n, D, Pl, hcs, _, hl, hm, hmm, hx, hel⟩
  · simp [Value.cells] at hcs
    obtain ⟨rfl, rfl, rfl⟩ := hcs
    exact ⟨none, [], 0, rfl, fun h => absurd h (by simp), by simp, by simp⟩
  · simp [Value.cells] at hcs
    obtain ⟨rfl, rfl, rfl⟩ := hcs
    simp only [Prod.mk.injEq] at hx
    obtain ⟨rfl, -⟩ := hx
    have hmle : len ≤ m := by rw [hmm]; simp; exact hl
    have hall := List.all_eq_true.1 hz
    have hlen : len * 40 ≤ reachBytes := by
      have h1 := hall _ (by simp only [DataW.weights, Try.underlying62]; exact List.mem_cons_self ..)
      simp only [decide_eq_true_eq, List.length_map, List.length_range, bCut] at h1
      have : (len + ((List.range (m - len)).map fun i => D (len + i)).length) * 40 ≤ reachBytes := by simpa using h1
      omega
    have hspot : 0 < len → x.spot = none := by
      intro h0
      obtain ⟨cs', h1, h2⟩ := hel 0 (by omega)
      rw [cCut] at h1
      obtain ⟨s, rfl, _⟩ := open_cut h2
      obtain ⟨_, _, hc⟩ := World.cells?_some h1
      have := World.cell?_spot (hc 0 (by simp))
      simpa [Addr.add] using this
    have each : ∀ i, i < len → ∃ s : Ct, (s.key.size ≤ 140737488355328 ∧ s.val.size ≤ 140737488355328) ∧ ∃ b off, x = ⟨b, off, none⟩ ∧ W.rangeAt b (off + i * 3) s.cs := by
      intro i hi
      obtain ⟨cs', h1, h2⟩ := hel i (by omega)
      obtain ⟨s, rfl, hk1, hk2⟩ := open_cut h2
      rw [cCut] at h1
      obtain ⟨_, _, hc⟩ := World.cells?_some h1
      have hsp := hspot (by omega)
      obtain ⟨b, off, spot⟩ := x
      simp only at hsp
      subst hsp
      simp only [Addr.add_mid] at hc
      have hin : ∀ k, k ∈ (D i).weights Try.prog 64 → k ≤ 140737488355328 := fun k hk => by
        have h3 := hall k (by
          simp only [DataW.weights, Try.underlying62]
          exact List.mem_cons_of_mem _ (List.mem_append_left _ (weights_all (List.mem_map.2 ⟨i, List.mem_range.2 hi, rfl⟩) hk)))
        have h4 : k ≤ reachBytes := by simpa using h3
        exact Nat.le_trans h4 (by decide)
      refine ⟨s, ⟨hin _ hk1, hin _ hk2⟩, b, off, rfl, fun k v hv => ?_⟩
      obtain ⟨hk7, _⟩ := List.getElem?_eq_some_iff.1 hv
      exact (hc k hk7).trans hv
    obtain ⟨l, hll, hi⟩ := choose_list _ len each
    refine ⟨some x, l, cap, by rw [hll], fun h0 => ?_, ?_, fun y hy => ?_⟩
    · obtain ⟨_, b, off, rfl, _⟩ := hi 0 h0
      refine ⟨b, off, rfl, fun j hj => ?_⟩
      obtain ⟨_, b', off', e, hat⟩ := hi j hj
      cases e
      exact hat
    · rw [hll]
      have : reachBytes ≤ 140737488355328 := by decide
      omega
    · obtain ⟨j, hj, rfl⟩ := List.mem_iff_getElem.1 hy
      exact (hi j hj).1
end
end Go.Proofs.Ytjkcnjjjfbpjiaa
