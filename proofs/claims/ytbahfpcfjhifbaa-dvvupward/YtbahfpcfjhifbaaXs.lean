/- What came in: dots, with the bulk of what they hold. -/
import Derived.Test.YtbahfpcfjhifbaaXj
import Derived.Test.YtbahfpcfjhifbaaHallB
import Derived.Test.YtbahfpcfjhifbaaRows
import Derived.Deep.Slices
namespace Go.Proofs.Ytbahfpcfjhifbaa
open Go.ChangeShapes Go.WideShapes Go.ChangeAt Go.RowKit Go.Deep

section
variable {H : Type} {enc : TypeId × Value → H} {W : World}
theorem choose_list {α : Type} (p : Nat → α → Prop) (n : Nat) (hp : ∀ i, i < n → ∃ x, p i x) : ∃ l : List α, l.length = n ∧ ∀ (j : Nat) (hj : j < l.length), p j l[j] := by
  induction n with
  | zero => exact ⟨[], rfl, by intro j hj; simp at hj⟩
  | succ k ih =>
    obtain ⟨l, hl, hi⟩ := ih (fun i hi => hp i (by omega))
    obtain ⟨x, hx⟩ := hp k (by omega)
    refine ⟨l ++ [x], by simp [hl], fun j hj => ?_⟩
    by_cases hjk : j < l.length
    · rw [List.getElem_append_left hjk]; exact hi j hjk
    · have e : j = k := by simp [hl] at hj; omega
      subst e
      rw [List.getElem_append_right (by omega)]
      simpa [hl] using hx
theorem bulk_pos (d : DataW H) : 1 ≤ Rows.uptoBulk d := by
  cases d with
  | lit l => cases l <;> simp [Rows.uptoBulk]
  | _ => simp [Rows.uptoBulk]
theorem bulk_all : ∀ l : List (DataW H), l.length ≤ Rows.uptoBulkAll l
  | [] => Nat.le_refl _
  | d :: r => by
    have h1 := bulk_pos d
    have h2 := bulk_all r
    simp only [Rows.uptoBulkAll, List.length_cons]
    omega
theorem bulk_len (n : Nat) (D : Nat → DataW H) (r : List (DataW H)) : n ≤ Rows.uptoBulk (.slice ((List.range n).map D) r) := by
  have h := bulk_all ((List.range n).map D)
  simp only [List.length_map, List.length_range] at h
  simp only [Rows.uptoBulk]
  omega
theorem cU32 : Try.prog.cellsOf 38 = 1 := by kernel_rfl
theorem cU64 : Try.prog.cellsOf 41 = 1 := by kernel_rfl
theorem cDot : Try.prog.cellsOf 43 = 2 := by kernel_rfl
theorem bDot : Try.prog.bytesOf 43 = 16 := by kernel_rfl
theorem nat_u32 {n : Int} (h : (Lit.int .u32 n).wf = true) : ∃ k : Nat, n = (k : Int) ∧ k < 4294967296 := by
  have h1 : 0 ≤ n ∧ n < 4294967296 := by simp [Lit.wf, IntKind.min, IntKind.max, IntKind.signed, IntKind.bits] at h; omega
  exact ⟨n.toNat, by omega, by omega⟩
theorem nat_u64 {n : Int} (h : (Lit.int .u64 n).wf = true) : ∃ k : Nat, n = (k : Int) ∧ k < 18446744073709551616 := by
  have h1 : 0 ≤ n ∧ n < 18446744073709551616 := by simp [Lit.wf, IntKind.min, IntKind.max, IntKind.signed, IntKind.bits] at h; omega
  exact ⟨n.toNat, by omega, by omega⟩
set_option maxRecDepth 100000 in
theorem open_dot {fuel : Nat} {cs : List Value} {x : DataW H × List MemPlace} (h : DataW.trod enc Try.prog W 0 (fun _ => true) true fuel 43 cs = some x) :
    ∃ d : Nat × Nat, cs = dcs d ∧ d.1 < 4294967296 ∧ d.2 < 18446744073709551616 := by
  obtain ⟨xs, n, _, rfl, hl, hlen, hf⟩ := DataW.trod_struct Try.underlying43 h
  rw [cDot] at hl
  match xs, hlen, cs, hl with
  | [y0, y1], _, [v0, v1], _ =>
    have g0 : DataW.trod enc Try.prog W 0 (fun _ => true) true n 38 (List.take (Try.prog.cellsOf 38) (List.drop 0 [v0, v1])) = some y0 := hf 0 _ rfl
    rw [cU32] at g0
    have g1 : DataW.trod enc Try.prog W 0 (fun _ => true) true n 41 (List.take (Try.prog.cellsOf 41) (List.drop 1 [v0, v1])) = some y1 := hf 1 _ rfl
    rw [cU64] at g1
    obtain ⟨n0, e0, _, w0⟩ := DataW.trod_int Try.underlying38 g0
    obtain ⟨n1, e1, _, w1⟩ := DataW.trod_int Try.underlying41 g1
    simp only [List.drop_zero, List.drop_succ_cons, List.take_succ_cons, List.take_zero, List.cons.injEq, and_true] at e0 e1
    subst e0 e1
    obtain ⟨k0, rfl, b0⟩ := nat_u32 w0
    obtain ⟨k1, rfl, b1⟩ := nat_u64 w1
    exact ⟨(k0, k1), rfl, b0, b1⟩
theorem lies_dots {w : World} {b off : Nat} : ∀ (l : List (Nat × Nat)) (k : Nat), (∀ (j : Nat) (hj : j < l.length), w.rangeAt b (off + (k + j) * 2) (dcs l[j])) → w.rangeAt b (off + k * 2) (flatD l)
  | [], _, _ => fun j v hv => by simp [flatD] at hv
  | d :: l, k, h => by
    intro j v hv
    have e : flatD (d :: l) = .int .u32 (d.1 : Int) :: .int .u64 (d.2 : Int) :: flatD l := rfl
    rw [e] at hv
    have h0 := h 0 (by simp)
    match j, hv with
    | 0, hv => exact h0 0 v (by simpa [dcs] using hv)
    | 1, hv => exact h0 1 v (by simpa [dcs] using hv)
    | j + 2, hv =>
      have hr := lies_dots l (k + 1) (fun i hi => by
        have := h (i + 1) (by simpa using hi)
        rw [show k + 1 + i = k + (i + 1) by omega]
        simpa using this) j v (by simpa using hv)
      rw [show off + k * 2 + (j + 2) = off + (k + 1) * 2 + j by omega]
      exact hr
set_option maxRecDepth 100000 in
theorem open_dots {base : Nat} {v : Value} {d : DataW H} {ps : List MemPlace} (hval : Value.okWide Try.prog W .any base 22 v) (h : DataW.Trod enc Try.prog W 0 (fun _ => true) true 22 v d ps) (hz : (DataW.weights Try.prog 22 d).all (· ≤ reachBytes) = true) :
    ∃ (ao : Option Addr) (l : List (Nat × Nat)) (cap : Nat), v = .slice ao l.length cap ∧ Da W l ao cap ∧ l.length ≤ Rows.uptoBulk d := by
  obtain ⟨a, len, cap, rfl⟩ := okWide_slice Try.underlying22 hval
  obtain ⟨fuel, hf⟩ := h
  rcases open_slice Try.underlying22 hf with ⟨hcs, hx⟩ | ⟨x, l', c', m, n, D, Pl, hcs, _, hl, hm, hmm, hx, hel⟩
  · simp [Value.cells] at hcs
    obtain ⟨rfl, rfl, rfl⟩ := hcs
    exact ⟨none, [], 0, rfl, ⟨⟨Lies.nil _ _, Nat.le_refl _, fun _ => rfl⟩, fun d hd => (by cases hd), Nat.zero_le _⟩, Nat.zero_le _⟩
  · simp [Value.cells] at hcs
    obtain ⟨rfl, rfl, rfl⟩ := hcs
    simp only [Prod.mk.injEq] at hx
    obtain ⟨rfl, -⟩ := hx
    have hmle : len ≤ m := by rw [hmm]; simp; exact hl
    have hall := List.all_eq_true.1 hz
    have hlen : len * 16 ≤ reachBytes := by
      have h1 := hall _ (by simp only [DataW.weights, Try.underlying22]; exact List.mem_cons_self ..)
      simp only [decide_eq_true_eq, List.length_map, List.length_range, bDot] at h1
      have : (len + ((List.range (m - len)).map fun i => D (len + i)).length) * 16 ≤ reachBytes := by simpa using h1
      omega
    have hspot : 0 < len → x.spot = none := by
      intro h0
      obtain ⟨cs', h1, h2⟩ := hel 0 (by omega)
      rw [cDot] at h1
      obtain ⟨s, rfl, _⟩ := open_dot h2
      obtain ⟨_, _, hc⟩ := World.cells?_some h1
      have := World.cell?_spot (hc 0 (by simp))
      simpa [Addr.add] using this
    have each : ∀ i, i < len → ∃ s : Nat × Nat, (s.1 < 4294967296 ∧ s.2 < 18446744073709551616) ∧ ∃ b off, x = ⟨b, off, none⟩ ∧ W.rangeAt b (off + i * 2) (dcs s) := by
      intro i hi
      obtain ⟨cs', h1, h2⟩ := hel i (by omega)
      obtain ⟨s, rfl, hk1, hk2⟩ := open_dot h2
      rw [cDot] at h1
      obtain ⟨_, _, hc⟩ := World.cells?_some h1
      have hsp := hspot (by omega)
      obtain ⟨b, off, spot⟩ := x
      simp only at hsp
      subst hsp
      simp only [Addr.add_mid] at hc
      refine ⟨s, ⟨hk1, hk2⟩, b, off, rfl, fun k v hv => ?_⟩
      obtain ⟨hk7, _⟩ := List.getElem?_eq_some_iff.1 hv
      exact (hc k hk7).trans hv
    obtain ⟨l, hll, hi⟩ := choose_list _ len each
    refine ⟨some x, l, cap, by rw [hll], ⟨⟨fun h0 => ?_, by omega, (fun e => by cases e)⟩, fun y hy => ?_, ?_⟩, by rw [hll]; exact bulk_len len _ _⟩
    · rw [flatD_len] at h0
      obtain ⟨_, b, off, rfl, _⟩ := hi 0 (by omega)
      refine ⟨b, off, rfl, ?_⟩
      have := lies_dots (w := W) (b := b) (off := off) l 0 (fun j hj => by
        obtain ⟨_, b', off', e, hat⟩ := hi j hj
        cases e
        rw [Nat.zero_add]; exact hat)
      simpa using this
    · obtain ⟨j, hj, rfl⟩ := List.mem_iff_getElem.1 hy
      exact (hi j hj).1
    · rw [hll]
      have : reachBytes ≤ 140737488351232 := by decide
      omega
end
end Go.Proofs.Ytbahfpcfjhifbaa
