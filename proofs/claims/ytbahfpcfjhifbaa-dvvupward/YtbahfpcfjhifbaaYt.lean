/- What came in: a state. -/
import Derived.Test.YtbahfpcfjhifbaaYe
import Derived.Test.YtbahfpcfjhifbaaXs
namespace Go.Proofs.Ytbahfpcfjhifbaa
open Go.ChangeShapes Go.WideShapes Go.ChangeAt Go.RowKit Go.Deep

section
variable {H : Type} {enc : TypeId × Value → H} {W : World}
theorem cBoo : Try.prog.cellsOf 4 = 1 := by kernel_rfl
theorem cStr : Try.prog.cellsOf 9 = 1 := by kernel_rfl
theorem cSib : Try.prog.cellsOf 56 = 4 := by kernel_rfl
theorem cSibs : Try.prog.cellsOf 23 = 1 := by kernel_rfl
theorem cDots : Try.prog.cellsOf 22 = 1 := by kernel_rfl
theorem cState : Try.prog.cellsOf 25 = 2 := by kernel_rfl
theorem bSib : Try.prog.bytesOf 56 = 40 := by kernel_rfl
theorem weights_sb {P : Program} {e : TypeId} : ∀ {l : List (DataW H)} {d : DataW H} {n : Nat}, d ∈ l → n ∈ d.weights P e → n ∈ DataW.weightsAll P e l
  | [], _, _, h, _ => by cases h
  | x :: r, d, n, h, hn => by
    simp only [DataW.weightsAll, List.mem_append]
    rcases List.mem_cons.1 h with rfl | h
    · exact .inl hn
    · exact .inr (weights_sb h hn)
set_option maxRecDepth 100000 in
theorem open_sib {fuel : Nat} {cs : List Value} {x : DataW H × List MemPlace} (h : DataW.trod enc Try.prog W 0 (fun _ => true) true fuel 56 cs = some x) :
    ∃ s : Sb, cs = s.cs ∧ s.a < 4294967296 ∧ s.c < 18446744073709551616 ∧ s.val.size ∈ x.1.weights Try.prog 56 := by
  obtain ⟨xs, n, _, rfl, hl, hlen, hf⟩ := DataW.trod_struct Try.underlying56 h
  rw [cSib] at hl
  match xs, hlen, cs, hl with
  | [y0, y1, y2], _, [v0, v1, v2, v3], _ =>
    have g0 : DataW.trod enc Try.prog W 0 (fun _ => true) true n 43 (List.take (Try.prog.cellsOf 43) (List.drop 0 [v0, v1, v2, v3])) = some y0 := hf 0 _ rfl
    rw [cDot] at g0
    have g1 : DataW.trod enc Try.prog W 0 (fun _ => true) true n 4 (List.take (Try.prog.cellsOf 4) (List.drop 2 [v0, v1, v2, v3])) = some y1 := hf 1 _ rfl
    rw [cBoo] at g1
    have g2 : DataW.trod enc Try.prog W 0 (fun _ => true) true n 9 (List.take (Try.prog.cellsOf 9) (List.drop 3 [v0, v1, v2, v3])) = some y2 := hf 2 _ rfl
    rw [cStr] at g2
    obtain ⟨d, e0, b0, b1⟩ := open_dot g0
    obtain ⟨b, e1, _⟩ := DataW.trod_bool Try.underlying4 g1
    obtain ⟨t, e2, f2, _⟩ := DataW.trod_string Try.underlying9 g2
    simp only [dcs, List.drop_zero, List.drop_succ_cons, List.take_succ_cons, List.take_zero, List.cons.injEq, and_true] at e0 e1 e2
    obtain ⟨rfl, rfl⟩ := e0
    subst e1 e2
    refine ⟨⟨d.1, d.2, b, t⟩, rfl, b0, b1, ?_⟩
    show t.size ∈ DataW.weights Try.prog 56 (.agg [y0.1, y1.1, y2.1])
    rw [f2]
    simp [DataW.weights, Try.underlying56, DataW.weightsEach]
theorem lies_sibs {w : World} {b off : Nat} : ∀ (l : List Sb) (k : Nat), (∀ (j : Nat) (hj : j < l.length), w.rangeAt b (off + (k + j) * 4) l[j].cs) → w.rangeAt b (off + k * 4) (flatS l)
  | [], _, _ => fun j v hv => by simp [flatS] at hv
  | d :: l, k, h => by
    intro j v hv
    have e : flatS (d :: l) = .int .u32 (d.a : Int) :: .int .u64 (d.c : Int) :: .bool d.gone :: .string d.val :: flatS l := rfl
    rw [e] at hv
    have h0 := h 0 (by simp)
    match j, hv with
    | 0, hv => exact h0 0 v (by simpa [Sb.cs] using hv)
    | 1, hv => exact h0 1 v (by simpa [Sb.cs] using hv)
    | 2, hv => exact h0 2 v (by simpa [Sb.cs] using hv)
    | 3, hv => exact h0 3 v (by simpa [Sb.cs] using hv)
    | j + 4, hv =>
      have hr := lies_sibs l (k + 1) (fun i hi => by
        have := h (i + 1) (by simpa using hi)
        rw [show k + 1 + i = k + (i + 1) by omega]
        simpa using this) j v (by simpa using hv)
      rw [show off + k * 4 + (j + 4) = off + (k + 1) * 4 + j by omega]
      exact hr
set_option maxRecDepth 100000 in
theorem open_sibs_cell {fuel : Nat} {cs : List Value} {x : DataW H × List MemPlace} (h : DataW.trod enc Try.prog W 0 (fun _ => true) true fuel 23 cs = some x) (hz : ∀ k ∈ x.1.weights Try.prog 23, k ≤ reachBytes) :
    ∃ (ao : Option Addr) (l : List Sb) (cap : Nat), cs = [.slice ao l.length cap] ∧ Sa W l ao cap := by
  rcases open_slice Try.underlying23 h with ⟨hcs, hx⟩ | ⟨x, len, cap, m, n, D, Pl, rfl, _, hl, hm, hmm, hx, hel⟩
  · exact ⟨none, [], 0, hcs, Sa.none _⟩
  · subst hx
    have hmle : len ≤ m := by rw [hmm]; simp; exact hl
    have hlen : len * 40 ≤ reachBytes := by
      have h1 := hz _ (by simp only [DataW.weights, Try.underlying23]; exact List.mem_cons_self ..)
      simp only [List.length_map, List.length_range, bSib] at h1
      have : (len + ((List.range (m - len)).map fun i => D (len + i)).length) * 40 ≤ reachBytes := by simpa using h1
      omega
    have hspot : 0 < len → x.spot = none := by
      intro h0
      obtain ⟨cs', h1, h2⟩ := hel 0 (by omega)
      rw [cSib] at h1
      obtain ⟨s, rfl, _⟩ := open_sib h2
      obtain ⟨_, _, hc⟩ := World.cells?_some h1
      have := World.cell?_spot (hc 0 (by simp))
      simpa [Addr.add] using this
    have each : ∀ i, i < len → ∃ s : Sb, s.Fit ∧ ∃ b off, x = ⟨b, off, none⟩ ∧ W.rangeAt b (off + i * 4) s.cs := by
      intro i hi
      obtain ⟨cs', h1, h2⟩ := hel i (by omega)
      obtain ⟨s, rfl, hk1, hk2, hk3⟩ := open_sib h2
      rw [cSib] at h1
      obtain ⟨_, _, hc⟩ := World.cells?_some h1
      have hsp := hspot (by omega)
      obtain ⟨b, off, spot⟩ := x
      simp only at hsp
      subst hsp
      simp only [Addr.add_mid] at hc
      have hin : ∀ k, k ∈ (D i).weights Try.prog 56 → k ≤ 140737488355328 := fun k hk => by
        have h4 := hz k (by
          simp only [DataW.weights, Try.underlying23]
          exact List.mem_cons_of_mem _ (List.mem_append_left _ (weights_sb (List.mem_map.2 ⟨i, List.mem_range.2 hi, rfl⟩) hk)))
        exact Nat.le_trans h4 (by decide)
      refine ⟨s, ⟨hk1, hk2, hin _ hk3⟩, b, off, rfl, fun k v hv => ?_⟩
      obtain ⟨hk7, _⟩ := List.getElem?_eq_some_iff.1 hv
      exact (hc k hk7).trans hv
    obtain ⟨l, hll, hi⟩ := choose_list _ len each
    refine ⟨some x, l, cap, by rw [hll], ⟨fun h0 => ?_, by omega, (fun e => by cases e), fun y hy => ?_, ?_⟩⟩
    · rw [flatS_len] at h0
      obtain ⟨_, b, off, rfl, _⟩ := hi 0 (by omega)
      refine ⟨b, off, rfl, ?_⟩
      have := lies_sibs (w := W) (b := b) (off := off) l 0 (fun j hj => by
        obtain ⟨_, b', off', e, hat⟩ := hi j hj
        cases e
        rw [Nat.zero_add]; exact hat)
      simpa using this
    · obtain ⟨j, hj, rfl⟩ := List.mem_iff_getElem.1 hy
      exact (hi j hj).1
    · rw [hll]
      have : reachBytes ≤ 140737488351232 := by decide
      omega
set_option maxRecDepth 100000 in
theorem open_dots_cell {fuel : Nat} {cs : List Value} {x : DataW H × List MemPlace} (h : DataW.trod enc Try.prog W 0 (fun _ => true) true fuel 22 cs = some x) (hz : ∀ k ∈ x.1.weights Try.prog 22, k ≤ reachBytes) :
    ∃ (ao : Option Addr) (l : List (Nat × Nat)) (cap : Nat), cs = [.slice ao l.length cap] ∧ Da W l ao cap := by
  rcases open_slice Try.underlying22 h with ⟨hcs, hx⟩ | ⟨x, len, cap, m, n, D, Pl, rfl, _, hl, hm, hmm, hx, hel⟩
  · exact ⟨none, [], 0, hcs, ⟨⟨Lies.nil _ _, Nat.le_refl _, fun _ => rfl⟩, fun d hd => (by cases hd), Nat.zero_le _⟩⟩
  · subst hx
    have hmle : len ≤ m := by rw [hmm]; simp; exact hl
    have hlen : len * 16 ≤ reachBytes := by
      have h1 := hz _ (by simp only [DataW.weights, Try.underlying22]; exact List.mem_cons_self ..)
      simp only [List.length_map, List.length_range, bDot] at h1
      have : (len + ((List.range (m - len)).map fun i => D (len + i)).length) * 16 ≤ reachBytes := by simpa using h1
      omega
    have hspot : 0 < len → x.spot = none := by
      intro h0
      obtain ⟨cs', h1, h2⟩ := hel 0 (by omega)
      rw [cDot] at h1
      obtain ⟨s, rfl, _⟩ := open_dot h2
      obtain ⟨_, _, hc⟩ := World.cells?_some h1
      have := World.cell?_spot (hc 0 (by simp))
      simpa [Addr.add] using this
    have each : ∀ i, i < len → ∃ s : Nat × Nat, (s.1 < 4294967296 ∧ s.2 < 18446744073709551616) ∧ ∃ b off, x = ⟨b, off, none⟩ ∧ W.rangeAt b (off + i * 2) (dcs s) := by
      intro i hi
      obtain ⟨cs', h1, h2⟩ := hel i (by omega)
      obtain ⟨s, rfl, hk1, hk2⟩ := open_dot h2
      rw [cDot] at h1
      obtain ⟨_, _, hc⟩ := World.cells?_some h1
      have hsp := hspot (by omega)
      obtain ⟨b, off, spot⟩ := x
      simp only at hsp
      subst hsp
      simp only [Addr.add_mid] at hc
      refine ⟨s, ⟨hk1, hk2⟩, b, off, rfl, fun k v hv => ?_⟩
      obtain ⟨hk7, _⟩ := List.getElem?_eq_some_iff.1 hv
      exact (hc k hk7).trans hv
    obtain ⟨l, hll, hi⟩ := choose_list _ len each
    refine ⟨some x, l, cap, by rw [hll], ⟨⟨fun h0 => ?_, by omega, (fun e => by cases e)⟩, fun y hy => ?_, ?_⟩⟩
    · rw [flatD_len] at h0
      obtain ⟨_, b, off, rfl, _⟩ := hi 0 (by omega)
      refine ⟨b, off, rfl, ?_⟩
      have := lies_dots (w := W) (b := b) (off := off) l 0 (fun j hj => by
        obtain ⟨_, b', off', e, hat⟩ := hi j hj
        cases e
        rw [Nat.zero_add]; exact hat)
      simpa using this
    · obtain ⟨j, hj, rfl⟩ := List.mem_iff_getElem.1 hy
      exact (hi j hj).1
    · rw [hll]
      have : reachBytes ≤ 140737488351232 := by decide
      omega
set_option maxRecDepth 100000 in
theorem open_st {base : Nat} {v : Value} {d : DataW H} {ps : List MemPlace} (hval : Value.okWide Try.prog W .any base 25 v) (h : DataW.Trod enc Try.prog W 0 (fun _ => true) true 25 v d ps) (hz : (DataW.weights Try.prog 25 d).all (· ≤ reachBytes) = true) :
    ∃ (s : St) (a : Sv), v = a.v s.seen.length s.sibs.length ∧ SAt W s a := by
  obtain ⟨cs, rfl, hsz⟩ := okWide_struct Try.underlying25 hval
  rw [cState] at hsz
  obtain ⟨fuel, hf⟩ := h
  obtain ⟨xs, n, _, hd, hl, hlen, hf⟩ := DataW.trod_struct Try.underlying25 hf
  obtain ⟨l, rfl⟩ : ∃ l : List Value, cs = l.toArray := ⟨cs.toList, by simp⟩
  have hc : (Value.agg l.toArray).cells.toList = l := by simp [Value.cells]
  rw [hc] at hl hf
  have hall := List.all_eq_true.1 hz
  match xs, hlen, l, hsz with
  | [y0, y1], _, [v0, v1], _ =>
    have hd' : d = .agg [y0.1, y1.1] := by simpa using congrArg Prod.fst hd
    have g0 : DataW.trod enc Try.prog W 0 (fun _ => true) true n 22 (List.take (Try.prog.cellsOf 22) (List.drop 0 [v0, v1])) = some y0 := hf 0 _ rfl
    rw [cDots] at g0
    have g1 : DataW.trod enc Try.prog W 0 (fun _ => true) true n 23 (List.take (Try.prog.cellsOf 23) (List.drop 1 [v0, v1])) = some y1 := hf 1 _ rfl
    rw [cSibs] at g1
    have hin : ∀ k, (k ∈ y0.1.weights Try.prog 22 ∨ k ∈ y1.1.weights Try.prog 23) → k ≤ reachBytes := fun k hk => by
      have h3 := hall k (by
        rw [hd']
        simp only [DataW.weights, Try.underlying25]
        simp [DataW.weightsEach]
        exact hk)
      simpa using h3
    obtain ⟨a1, l1, c1, e1, k1⟩ := open_dots_cell g0 (fun k hk => hin k (.inl hk))
    obtain ⟨a2, l2, c2, e2, k2⟩ := open_sibs_cell g1 (fun k hk => hin k (.inr hk))
    simp only [List.drop_zero, List.drop_succ_cons, List.take_succ_cons, List.take_zero, List.cons.injEq, and_true] at e1 e2
    subst e1 e2
    exact ⟨⟨l1, l2⟩, ⟨a1, c1, a2, c2⟩, rfl, ⟨k1, k2⟩⟩
end
end Go.Proofs.Ytbahfpcfjhifbaa
