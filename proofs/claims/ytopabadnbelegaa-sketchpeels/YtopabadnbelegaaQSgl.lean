/- What came in: entries. -/
import Derived.Test.YtopabadnbelegaaQSgk
import Derived.Test.YtopabadnbelegaaQHallB
import Derived.Test.YtopabadnbelegaaRows
import Derived.Deep.Slices
namespace Go.Proofs.Ytopabadnbelegaa.S
open Go.ChangeShapes Go.WideShapes Go.ChangeAt Go.RowKit Go.Deep
section
variable {H : Type} {enc : TypeId × Value → H} {W : World}
theorem choose_list {α : Type} (p : Nat → α → Prop) (n : Nat) (hp : ∀ i, i < n → ∃ x, p i x) : ∃ l : List α, l.length = n ∧ ∀ (j : Nat) (hj : j < l.length), p j l[j] := by
  induction n with
  | zero => exact ⟨[], rfl, by intro j hj; simp at hj⟩
  | succ k ih =>
    obtain ⟨l, hl, hi⟩ := ih (fun i hi => hp i (by omega))
    obtain ⟨x, hx⟩ := hp k (by omega)
    refine ⟨l ++ [x], by simp [hl], fun j hj => ?_⟩
    by_cases hjk : j < l.length
    · rw [List.getElem_append_left hjk]; exact hi j hjk
    · have e : j = k := by simp [hl] at hj; omega
      subst e
      rw [List.getElem_append_right (by omega)]
      simpa [hl] using hx
theorem bulk_pos (d : DataW H) : 1 ≤ Rows.uptoBulk d := by
  cases d with
  | lit l => cases l <;> simp [Rows.uptoBulk]
  | _ => simp [Rows.uptoBulk]
theorem bulk_all : ∀ l : List (DataW H), l.length ≤ Rows.uptoBulkAll l
  | [] => Nat.le_refl _
  | d :: r => by
    have h1 := bulk_pos d
    have h2 := bulk_all r
    simp only [Rows.uptoBulkAll, List.length_cons]
    omega
theorem bulk_len (n : Nat) (D : Nat → DataW H) (r : List (DataW H)) : n ≤ Rows.uptoBulk (.slice ((List.range n).map D) r) := by
  have h := bulk_all ((List.range n).map D)
  simp only [List.length_map, List.length_range] at h
  simp only [Rows.uptoBulk]
  omega
theorem cStr : Try.prog.cellsOf 9 = 1 := by kernel_rfl
theorem cEn : Try.prog.cellsOf 36 = 2 := by kernel_rfl
theorem bEn : Try.prog.bytesOf 36 = 32 := by kernel_rfl
theorem weights_en {P : Program} {e : TypeId} : ∀ {l : List (DataW H)} {d : DataW H} {n : Nat}, d ∈ l → n ∈ d.weights P e → n ∈ DataW.weightsAll P e l
  | [], _, _, h, _ => by cases h
  | x :: r, d, n, h, hn => by
    simp only [DataW.weightsAll, List.mem_append]
    rcases List.mem_cons.1 h with rfl | h
    · exact .inl hn
    · exact .inr (weights_en h hn)
set_option maxRecDepth 100000 in
theorem open_en {fuel : Nat} {cs : List Value} {x : DataW H × List MemPlace} (h : DataW.trod enc Try.prog W 0 (fun _ => true) true fuel 36 cs = some x) :
    ∃ e : En, cs = ecs e ∧ e.1.size ∈ x.1.weights Try.prog 36 ∧ e.2.size ∈ x.1.weights Try.prog 36 := by
  obtain ⟨xs, n, _, rfl, hl, hlen, hf⟩ := DataW.trod_struct Try.underlying36 h
  rw [cEn] at hl
  match xs, hlen, cs, hl with
  | [y0, y1], _, [v0, v1], _ =>
    have g0 : DataW.trod enc Try.prog W 0 (fun _ => true) true n 9 (List.take (Try.prog.cellsOf 9) (List.drop 0 [v0, v1])) = some y0 := hf 0 _ rfl
    rw [cStr] at g0
    have g1 : DataW.trod enc Try.prog W 0 (fun _ => true) true n 9 (List.take (Try.prog.cellsOf 9) (List.drop 1 [v0, v1])) = some y1 := hf 1 _ rfl
    rw [cStr] at g1
    obtain ⟨t, e0, f0, _⟩ := DataW.trod_string Try.underlying9 g0
    obtain ⟨z, e1, f1, _⟩ := DataW.trod_string Try.underlying9 g1
    simp only [List.drop_zero, List.drop_succ_cons, List.take_succ_cons, List.take_zero, List.cons.injEq, and_true] at e0 e1
    subst e0 e1
    refine ⟨(t, z), rfl, ?_, ?_⟩
    · show t.size ∈ DataW.weights Try.prog 36 (.agg [y0.1, y1.1])
      rw [f0]
      simp [DataW.weights, Try.underlying36, DataW.weightsEach]
    · show z.size ∈ DataW.weights Try.prog 36 (.agg [y0.1, y1.1])
      rw [f1]
      simp [DataW.weights, Try.underlying36, DataW.weightsEach]
theorem lies_ens {w : World} {b off : Nat} : ∀ (l : List En) (k : Nat), (∀ (j : Nat) (hj : j < l.length), w.rangeAt b (off + (k + j) * 2) (ecs l[j])) → w.rangeAt b (off + k * 2) (RE.flat l)
  | [], _, _ => fun j v hv => by simp [Rec.flat] at hv
  | d :: l, k, h => by
    intro j v hv
    have e : RE.flat (d :: l) = .string d.1 :: .string d.2 :: RE.flat l := rfl
    rw [e] at hv
    have h0 := h 0 (by simp)
    match j, hv with
    | 0, hv => exact h0 0 v (by simpa [ecs] using hv)
    | 1, hv => exact h0 1 v (by simpa [ecs] using hv)
    | j + 2, hv =>
      have hr := lies_ens l (k + 1) (fun i hi => by
        have := h (i + 1) (by simpa using hi)
        rw [show k + 1 + i = k + (i + 1) by omega]
        simpa using this) j v (by simpa using hv)
      rw [show off + k * 2 + (j + 2) = off + (k + 1) * 2 + j by omega]
      exact hr
set_option maxRecDepth 100000 in
theorem open_ens {base : Nat} {v : Value} {d : DataW H} {ps : List MemPlace} (hval : Value.okWide Try.prog W .any base 40 v) (h : DataW.Trod enc Try.prog W 0 (fun _ => true) true 40 v d ps) (hz : (DataW.weights Try.prog 40 d).all (· ≤ reachBytes) = true) :
    ∃ (ao : Option Addr) (l : List En) (n cap : Nat), v = .slice ao n cap ∧ El W l ao n cap ∧ n ≤ Rows.uptoBulk d ∧ ∀ e ∈ l, e.1.size ≤ 140737488355328 ∧ e.2.size ≤ 140737488355328 := by
  obtain ⟨a, len, cap, rfl⟩ := okWide_slice Try.underlying40 hval
  obtain ⟨fuel, hf⟩ := h
  rcases open_slice Try.underlying40 hf with ⟨hcs, hx⟩ | ⟨x, l', c', m, n, D, Pl, hcs, _, hl, hm, hmm, hx, hel⟩
  · simp [Value.cells] at hcs
    obtain ⟨rfl, rfl, rfl⟩ := hcs
    exact ⟨none, [], 0, 0, rfl, ⟨Rec.At.none _, rfl⟩, Nat.zero_le _, fun e he => absurd he (by simp)⟩
  · simp [Value.cells] at hcs
    obtain ⟨rfl, rfl, rfl⟩ := hcs
    simp only [Prod.mk.injEq] at hx
    obtain ⟨rfl, -⟩ := hx
    have hmle : len ≤ m := by rw [hmm]; simp; exact hl
    have hall := List.all_eq_true.1 hz
    have hlen : len * 32 ≤ reachBytes := by
      have h1 := hall _ (by simp only [DataW.weights, Try.underlying40]; exact List.mem_cons_self ..)
      simp only [decide_eq_true_eq, List.length_map, List.length_range, bEn] at h1
      have : (len + ((List.range (m - len)).map fun i => D (len + i)).length) * 32 ≤ reachBytes := by simpa using h1
      omega
    have hspot : 0 < len → x.spot = none := by
      intro h0
      obtain ⟨cs', h1, h2⟩ := hel 0 (by omega)
      rw [cEn] at h1
      obtain ⟨s, rfl, _⟩ := open_en h2
      obtain ⟨_, _, hc⟩ := World.cells?_some h1
      have := World.cell?_spot (hc 0 (by simp))
      simpa [Addr.add] using this
    have each : ∀ i, i < len → ∃ s : En, (s.1.size ≤ 140737488355328 ∧ s.2.size ≤ 140737488355328) ∧ ∃ b off, x = ⟨b, off, none⟩ ∧ W.rangeAt b (off + i * 2) (ecs s) := by
      intro i hi
      obtain ⟨cs', h1, h2⟩ := hel i (by omega)
      obtain ⟨s, rfl, hk1, hk2⟩ := open_en h2
      rw [cEn] at h1
      obtain ⟨_, _, hc⟩ := World.cells?_some h1
      have hsp := hspot (by omega)
      obtain ⟨b, off, spot⟩ := x
      simp only at hsp
      subst hsp
      simp only [Addr.add_mid] at hc
      have hin : ∀ k, k ∈ (D i).weights Try.prog 36 → k ≤ 140737488355328 := fun k hk => by
        have h4 := hall k (by
          simp only [DataW.weights, Try.underlying40]
          exact List.mem_cons_of_mem _ (List.mem_append_left _ (weights_en (List.mem_map.2 ⟨i, List.mem_range.2 hi, rfl⟩) hk)))
        exact Nat.le_trans (of_decide_eq_true h4) (by decide)
      refine ⟨s, ⟨hin _ hk1, hin _ hk2⟩, b, off, rfl, fun k v hv => ?_⟩
      obtain ⟨hk7, _⟩ := List.getElem?_eq_some_iff.1 hv
      exact (hc k hk7).trans hv
    obtain ⟨l, hll, hi⟩ := choose_list _ len each
    refine ⟨some x, l, len, cap, rfl, ⟨⟨fun h0 => ?_, by omega, (fun e => by cases e), ?_⟩, hll.symm⟩, bulk_len len _ _, fun y hy => ?_⟩
    · rw [RE.flat_len] at h0
      have h00 : 0 < l.length := Nat.pos_of_ne_zero fun e => by rw [e] at h0; simp at h0
      obtain ⟨_, b, off, rfl, _⟩ := hi 0 h00
      refine ⟨b, off, rfl, ?_⟩
      have := lies_ens (w := W) (b := b) (off := off) l 0 (fun j hj => by
        obtain ⟨_, b', off', e, hat⟩ := hi j hj
        cases e
        rw [Nat.zero_add]; exact hat)
      simpa using this
    · rw [hll]
      have : reachBytes ≤ 140737488351232 := by decide
      omega
    · obtain ⟨j, hj, rfl⟩ := List.mem_iff_getElem.1 hy
      exact (hi j hj).1
end
end Go.Proofs.Ytopabadnbelegaa.S
