/- What came in: entries, with their letters; written by mkskz.py. -/
import Derived.Test.YtdmdenbpokmelaaSgl
namespace Go.Proofs.Ytdmdenbpokmelaa.K
open Go.ChangeShapes Go.WideShapes Go.ChangeAt Go.RowKit Go.Deep
open Go.Proofs.Ytdmdenbpokmelaa.S
section
variable {H : Type} {enc : TypeId × Value → H} {W : World}
set_option maxRecDepth 100000 in
theorem open_enB {fuel : Nat} {cs : List Value} {x : DataW H × List MemPlace} (h : DataW.trod enc Try.prog W 0 (fun _ => true) true fuel 36 cs = some x) :
    ∃ e : En, cs = ecs e ∧ e.1.size ≤ Rows.uptoBulk x.1 ∧ e.2.size ≤ Rows.uptoBulk x.1 := by
  obtain ⟨xs, n, _, rfl, hl, hlen, hf⟩ := DataW.trod_struct Try.underlying36 h
  rw [cEn] at hl
  match xs, hlen, cs, hl with
  | [y0, y1], _, [v0, v1], _ =>
    have g0 : DataW.trod enc Try.prog W 0 (fun _ => true) true n 9 (List.take (Try.prog.cellsOf 9) (List.drop 0 [v0, v1])) = some y0 := hf 0 _ rfl
    rw [cStr] at g0
    have g1 : DataW.trod enc Try.prog W 0 (fun _ => true) true n 9 (List.take (Try.prog.cellsOf 9) (List.drop 1 [v0, v1])) = some y1 := hf 1 _ rfl
    rw [cStr] at g1
    obtain ⟨t, e0, f0, _⟩ := DataW.trod_string Try.underlying9 g0
    obtain ⟨z, e1, f1, _⟩ := DataW.trod_string Try.underlying9 g1
    simp only [List.drop_zero, List.drop_succ_cons, List.take_succ_cons, List.take_zero, List.cons.injEq, and_true] at e0 e1
    subst e0 e1
    refine ⟨(t, z), rfl, ?_, ?_⟩
    · show t.size ≤ Rows.uptoBulk (.agg [y0.1, y1.1])
      rw [f0]
      simp [Rows.uptoBulk, Rows.uptoBulkAll]
      omega
    · show z.size ≤ Rows.uptoBulk (.agg [y0.1, y1.1])
      rw [f1]
      simp [Rows.uptoBulk, Rows.uptoBulkAll]
      omega
set_option maxRecDepth 100000 in
theorem open_enV {base : Nat} {v : Value} {d : DataW H} {ps : List MemPlace} (hval : Value.okWide Try.prog W .any base 36 v) (h : DataW.Trod enc Try.prog W 0 (fun _ => true) true 36 v d ps) :
    ∃ e : En, v = .agg #[.string e.1, .string e.2] ∧ e.1.size ≤ Rows.uptoBulk d ∧ e.2.size ≤ Rows.uptoBulk d := by
  obtain ⟨cs, rfl, hsz⟩ := okWide_struct Try.underlying36 hval
  obtain ⟨fuel, hf⟩ := h
  obtain ⟨l, rfl⟩ : ∃ l : List Value, cs = l.toArray := ⟨cs.toList, by simp⟩
  have hc : (Value.agg l.toArray).cells.toList = l := by simp [Value.cells]
  rw [hc] at hf
  obtain ⟨e, rfl, h1, h2⟩ := open_enB hf
  exact ⟨e, rfl, h1, h2⟩
theorem bulk_mem : ∀ {l : List (DataW H)} {d : DataW H}, d ∈ l → Rows.uptoBulk d ≤ Rows.uptoBulkAll l
  | [], _, h => by cases h
  | x :: r, d, h => by
    simp only [Rows.uptoBulkAll]
    rcases List.mem_cons.1 h with rfl | h
    · omega
    · have := bulk_mem h; omega
theorem bulk_at {n : Nat} {D : Nat → DataW H} {r : List (DataW H)} {i : Nat} (hi : i < n) : Rows.uptoBulk (D i) ≤ Rows.uptoBulk (.slice ((List.range n).map D) r) := by
  have := bulk_mem (List.mem_map.2 ⟨i, List.mem_range.2 hi, rfl⟩ : D i ∈ (List.range n).map D)
  simp only [Rows.uptoBulk]
  omega
set_option maxRecDepth 100000 in
theorem open_ensB {base : Nat} {v : Value} {d : DataW H} {ps : List MemPlace} (hval : Value.okWide Try.prog W .any base 40 v) (h : DataW.Trod enc Try.prog W 0 (fun _ => true) true 40 v d ps) (hz : (DataW.weights Try.prog 40 d).all (· ≤ reachBytes) = true) :
    ∃ (ao : Option Addr) (l : List En) (n cap : Nat), v = .slice ao n cap ∧ El W l ao n cap ∧ n ≤ Rows.uptoBulk d ∧ ∀ e ∈ l, e.1.size ≤ Rows.uptoBulk d ∧ e.2.size ≤ Rows.uptoBulk d := by
  obtain ⟨a, len, cap, rfl⟩ := okWide_slice Try.underlying40 hval
  obtain ⟨fuel, hf⟩ := h
  rcases open_slice Try.underlying40 hf with ⟨hcs, hx⟩ | ⟨x, l', c', m, n, D, Pl, hcs, _, hl, hm, hmm, hx, hel⟩
  · simp [Value.cells] at hcs
    obtain ⟨rfl, rfl, rfl⟩ := hcs
    exact ⟨none, [], 0, 0, rfl, ⟨Rec.At.none _, rfl⟩, Nat.zero_le _, fun e he => absurd he (by simp)⟩
  · simp [Value.cells] at hcs
    obtain ⟨rfl, rfl, rfl⟩ := hcs
    simp only [Prod.mk.injEq] at hx
    obtain ⟨rfl, -⟩ := hx
    have hmle : len ≤ m := by rw [hmm]; simp; exact hl
    have hall := List.all_eq_true.1 hz
    have hlen : len * 32 ≤ reachBytes := by
      have h1 := hall _ (by simp only [DataW.weights, Try.underlying40]; exact List.mem_cons_self ..)
      simp only [decide_eq_true_eq, List.length_map, List.length_range, bEn] at h1
      have : (len + ((List.range (m - len)).map fun i => D (len + i)).length) * 32 ≤ reachBytes := by simpa using h1
      omega
    have hspot : 0 < len → x.spot = none := by
      intro h0
      obtain ⟨cs', h1, h2⟩ := hel 0 (by omega)
      rw [cEn] at h1
      obtain ⟨s, rfl, _⟩ := open_enB h2
      obtain ⟨_, _, hc⟩ := World.cells?_some h1
      have := World.cell?_spot (hc 0 (by simp))
      simpa [Addr.add] using this
    have each : ∀ i, i < len → ∃ s : En, (s.1.size ≤ Rows.uptoBulk (D i) ∧ s.2.size ≤ Rows.uptoBulk (D i)) ∧ ∃ b off, x = ⟨b, off, none⟩ ∧ W.rangeAt b (off + i * 2) (ecs s) := by
      intro i hi
      obtain ⟨cs', h1, h2⟩ := hel i (by omega)
      obtain ⟨s, rfl, hk1, hk2⟩ := open_enB h2
      rw [cEn] at h1
      obtain ⟨_, _, hc⟩ := World.cells?_some h1
      have hsp := hspot (by omega)
      obtain ⟨b, off, spot⟩ := x
      simp only at hsp
      subst hsp
      simp only [Addr.add_mid] at hc
      refine ⟨s, ⟨hk1, hk2⟩, b, off, rfl, fun k v hv => ?_⟩
      obtain ⟨hk7, _⟩ := List.getElem?_eq_some_iff.1 hv
      exact (hc k hk7).trans hv
    obtain ⟨l, hll, hi⟩ := choose_list _ len each
    refine ⟨some x, l, len, cap, rfl, ⟨⟨fun h0 => ?_, by omega, (fun e => by cases e), ?_⟩, hll.symm⟩, bulk_len len _ _, fun y hy => ?_⟩
    · rw [RE.flat_len] at h0
      have h00 : 0 < l.length := Nat.pos_of_ne_zero fun e => by rw [e] at h0; simp at h0
      obtain ⟨_, b, off, rfl, _⟩ := hi 0 h00
      refine ⟨b, off, rfl, ?_⟩
      have := lies_ens (w := W) (b := b) (off := off) l 0 (fun j hj => by
        obtain ⟨_, b', off', e, hat⟩ := hi j hj
        cases e
        rw [Nat.zero_add]; exact hat)
      simpa using this
    · rw [hll]
      have : reachBytes ≤ 140737488351232 := by decide
      omega
    · obtain ⟨j, hj, rfl⟩ := List.mem_iff_getElem.1 hy
      have hjl : j < len := by rw [← hll]; exact hj
      exact ⟨Nat.le_trans (hi j hj).1.1 (bulk_at hjl), Nat.le_trans (hi j hj).1.2 (bulk_at hjl)⟩
end
end Go.Proofs.Ytdmdenbpokmelaa.K
