/- Put together out of Xs, Yt, Op. -/
import Derived.Test.YtkcbljmjhlnjpaaQ05
import Derived.Test.YtkcbljmjhlnjpaaQ24
import Derived.Test.YtkcbljmjhlnjpaaRows
import Derived.Test.YtkcbljmjhlnjpaaQ19
import Derived.Deep.Slices
namespace Go.Proofs.Ytkcbljmjhlnjpaa
open Go.ChangeShapes Go.WideShapes Go.ChangeAt Go.RowKit Go.Deep

section
variable {H : Type} {enc : TypeId × Value → H} {W : World}
theorem choose_list {α : Type} (p : Nat → α → Prop) (n : Nat) (hp : ∀ i, i < n → ∃ x, p i x) : ∃ l : List α, l.length = n ∧ ∀ (j : Nat) (hj : j < l.length), p j l[j] := by
  induction n with
  | zero => exact ⟨[], rfl, by intro j hj; simp at hj⟩
  | succ k ih =>
    obtain ⟨l, hl, hi⟩ := ih (fun i hi => hp i (by omega))
    obtain ⟨x, hx⟩ := hp k (by omega)
    refine ⟨l ++ [x], by simp [hl], fun j hj => ?_⟩
    by_cases hjk : j < l.length
    · rw [List.getElem_append_left hjk]; exact hi j hjk
    · have e : j = k := by simp [hl] at hj; omega
      subst e
      rw [List.getElem_append_right (by omega)]
      simpa [hl] using hx
theorem bulk_pos (d : DataW H) : 1 ≤ Rows.uptoBulk d := by
  cases d with
  | lit l => cases l <;> simp [Rows.uptoBulk]
  | _ => simp [Rows.uptoBulk]
theorem bulk_all : ∀ l : List (DataW H), l.length ≤ Rows.uptoBulkAll l
  | [] => Nat.le_refl _
  | d :: r => by
    have h1 := bulk_pos d
    have h2 := bulk_all r
    simp only [Rows.uptoBulkAll, List.length_cons]
    omega
theorem bulk_len (n : Nat) (D : Nat → DataW H) (r : List (DataW H)) : n ≤ Rows.uptoBulk (.slice ((List.range n).map D) r) := by
  have h := bulk_all ((List.range n).map D)
  simp only [List.length_map, List.length_range] at h
  simp only [Rows.uptoBulk]
  omega
theorem cU32 : Try.prog.cellsOf 46 = 1 := by kernel_rfl
theorem cU64 : Try.prog.cellsOf 51 = 1 := by kernel_rfl
theorem cDot : Try.prog.cellsOf 53 = 2 := by kernel_rfl
theorem bDot : Try.prog.bytesOf 53 = 16 := by kernel_rfl
theorem nat_u32 {n : Int} (h : (Lit.int .u32 n).wf = true) : ∃ k : Nat, n = (k : Int) ∧ k < 4294967296 := by
  have h1 : 0 ≤ n ∧ n < 4294967296 := by simp [Lit.wf, IntKind.min, IntKind.max, IntKind.signed, IntKind.bits] at h; omega
  exact ⟨n.toNat, by omega, by omega⟩
theorem nat_u64 {n : Int} (h : (Lit.int .u64 n).wf = true) : ∃ k : Nat, n = (k : Int) ∧ k < 18446744073709551616 := by
  have h1 : 0 ≤ n ∧ n < 18446744073709551616 := by simp [Lit.wf, IntKind.min, IntKind.max, IntKind.signed, IntKind.bits] at h; omega
  exact ⟨n.toNat, by omega, by omega⟩
set_option maxRecDepth 100000 in
theorem open_dot {fuel : Nat} {cs : List Value} {x : DataW H × List MemPlace} (h : DataW.trod enc Try.prog W 0 (fun _ => true) true fuel 53 cs = some x) :
    ∃ d : Nat × Nat, cs = dcs d ∧ d.1 < 4294967296 ∧ d.2 < 18446744073709551616 := by
  obtain ⟨xs, n, _, rfl, hl, hlen, hf⟩ := DataW.trod_struct Try.underlying53 h
  rw [cDot] at hl
  match xs, hlen, cs, hl with
  | [y0, y1], _, [v0, v1], _ =>
    have g0 : DataW.trod enc Try.prog W 0 (fun _ => true) true n 46 (List.take (Try.prog.cellsOf 46) (List.drop 0 [v0, v1])) = some y0 := hf 0 _ rfl
    rw [cU32] at g0
    have g1 : DataW.trod enc Try.prog W 0 (fun _ => true) true n 51 (List.take (Try.prog.cellsOf 51) (List.drop 1 [v0, v1])) = some y1 := hf 1 _ rfl
    rw [cU64] at g1
    obtain ⟨n0, e0, _, w0⟩ := DataW.trod_int Try.underlying46 g0
    obtain ⟨n1, e1, _, w1⟩ := DataW.trod_int Try.underlying51 g1
    simp only [List.drop_zero, List.drop_succ_cons, List.take_succ_cons, List.take_zero, List.cons.injEq, and_true] at e0 e1
    subst e0 e1
    obtain ⟨k0, rfl, b0⟩ := nat_u32 w0
    obtain ⟨k1, rfl, b1⟩ := nat_u64 w1
    exact ⟨(k0, k1), rfl, b0, b1⟩
theorem lies_dots {w : World} {b off : Nat} : ∀ (l : List (Nat × Nat)) (k : Nat), (∀ (j : Nat) (hj : j < l.length), w.rangeAt b (off + (k + j) * 2) (dcs l[j])) → w.rangeAt b (off + k * 2) (flatD l)
  | [], _, _ => fun j v hv => by simp [flatD] at hv
  | d :: l, k, h => by
    intro j v hv
    have e : flatD (d :: l) = .int .u32 (d.1 : Int) :: .int .u64 (d.2 : Int) :: flatD l := rfl
    rw [e] at hv
    have h0 := h 0 (by simp)
    match j, hv with
    | 0, hv => exact h0 0 v (by simpa [dcs] using hv)
    | 1, hv => exact h0 1 v (by simpa [dcs] using hv)
    | j + 2, hv =>
      have hr := lies_dots l (k + 1) (fun i hi => by
        have := h (i + 1) (by simpa using hi)
        rw [show k + 1 + i = k + (i + 1) by omega]
        simpa using this) j v (by simpa using hv)
      rw [show off + k * 2 + (j + 2) = off + (k + 1) * 2 + j by omega]
      exact hr
set_option maxRecDepth 100000 in
theorem open_dots {base : Nat} {v : Value} {d : DataW H} {ps : List MemPlace} (hval : Value.okWide Try.prog W .any base 28 v) (h : DataW.Trod enc Try.prog W 0 (fun _ => true) true 28 v d ps) (hz : (DataW.weights Try.prog 28 d).all (· ≤ reachBytes) = true) :
    ∃ (ao : Option Addr) (l : List (Nat × Nat)) (cap : Nat), v = .slice ao l.length cap ∧ Da W l ao cap ∧ l.length ≤ Rows.uptoBulk d := by
  obtain ⟨a, len, cap, rfl⟩ := okWide_slice Try.underlying28 hval
  obtain ⟨fuel, hf⟩ := h
  rcases open_slice Try.underlying28 hf with ⟨hcs, hx⟩ | ⟨x, l', c', m, n, D, Pl, hcs, _, hl, hm, hmm, hx, hel⟩
  · simp [Value.cells] at hcs
    obtain ⟨rfl, rfl, rfl⟩ := hcs
    exact ⟨none, [], 0, rfl, ⟨⟨Lies.nil _ _, Nat.le_refl _, fun _ => rfl⟩, fun d hd => (by cases hd), Nat.zero_le _⟩, Nat.zero_le _⟩
  · simp [Value.cells] at hcs
    obtain ⟨rfl, rfl, rfl⟩ := hcs
    simp only [Prod.mk.injEq] at hx
    obtain ⟨rfl, -⟩ := hx
    have hmle : len ≤ m := by rw [hmm]; simp; exact hl
    have hall := List.all_eq_true.1 hz
    have hlen : len * 16 ≤ reachBytes := by
      have h1 := hall _ (by simp only [DataW.weights, Try.underlying28]; exact List.mem_cons_self ..)
      simp only [decide_eq_true_eq, List.length_map, List.length_range, bDot] at h1
      have : (len + ((List.range (m - len)).map fun i => D (len + i)).length) * 16 ≤ reachBytes := by simpa using h1
      omega
    have hspot : 0 < len → x.spot = none := by
      intro h0
      obtain ⟨cs', h1, h2⟩ := hel 0 (by omega)
      rw [cDot] at h1
      obtain ⟨s, rfl, _⟩ := open_dot h2
      obtain ⟨_, _, hc⟩ := World.cells?_some h1
      have := World.cell?_spot (hc 0 (by simp))
      simpa [Addr.add] using this
    have each : ∀ i, i < len → ∃ s : Nat × Nat, (s.1 < 4294967296 ∧ s.2 < 18446744073709551616) ∧ ∃ b off, x = ⟨b, off, none⟩ ∧ W.rangeAt b (off + i * 2) (dcs s) := by
      intro i hi
      obtain ⟨cs', h1, h2⟩ := hel i (by omega)
      obtain ⟨s, rfl, hk1, hk2⟩ := open_dot h2
      rw [cDot] at h1
      obtain ⟨_, _, hc⟩ := World.cells?_some h1
      have hsp := hspot (by omega)
      obtain ⟨b, off, spot⟩ := x
      simp only at hsp
      subst hsp
      simp only [Addr.add_mid] at hc
      refine ⟨s, ⟨hk1, hk2⟩, b, off, rfl, fun k v hv => ?_⟩
      obtain ⟨hk7, _⟩ := List.getElem?_eq_some_iff.1 hv
      exact (hc k hk7).trans hv
    obtain ⟨l, hll, hi⟩ := choose_list _ len each
    refine ⟨some x, l, cap, by rw [hll], ⟨⟨fun h0 => ?_, by omega, (fun e => by cases e)⟩, fun y hy => ?_, ?_⟩, by rw [hll]; exact bulk_len len _ _⟩
    · rw [flatD_len] at h0
      obtain ⟨_, b, off, rfl, _⟩ := hi 0 (by omega)
      refine ⟨b, off, rfl, ?_⟩
      have := lies_dots (w := W) (b := b) (off := off) l 0 (fun j hj => by
        obtain ⟨_, b', off', e, hat⟩ := hi j hj
        cases e
        rw [Nat.zero_add]; exact hat)
      simpa using this
    · obtain ⟨j, hj, rfl⟩ := List.mem_iff_getElem.1 hy
      exact (hi j hj).1
    · rw [hll]
      have : reachBytes ≤ 140737488351232 := by decide
      omega
end
end Go.Proofs.Ytkcbljmjhlnjpaa
namespace Go.Proofs.Ytkcbljmjhlnjpaa
open Go.ChangeShapes Go.WideShapes Go.ChangeAt Go.RowKit Go.Deep

section
variable {H : Type} {enc : TypeId × Value → H} {W : World}
theorem cBoo : Try.prog.cellsOf 4 = 1 := by kernel_rfl
theorem cStr : Try.prog.cellsOf 9 = 1 := by kernel_rfl
theorem cSib : Try.prog.cellsOf 69 = 4 := by kernel_rfl
theorem cSibs : Try.prog.cellsOf 29 = 1 := by kernel_rfl
theorem cDots : Try.prog.cellsOf 28 = 1 := by kernel_rfl
theorem cState : Try.prog.cellsOf 31 = 2 := by kernel_rfl
theorem bSib : Try.prog.bytesOf 69 = 40 := by kernel_rfl
theorem weights_sb {P : Program} {e : TypeId} : ∀ {l : List (DataW H)} {d : DataW H} {n : Nat}, d ∈ l → n ∈ d.weights P e → n ∈ DataW.weightsAll P e l
  | [], _, _, h, _ => by cases h
  | x :: r, d, n, h, hn => by
    simp only [DataW.weightsAll, List.mem_append]
    rcases List.mem_cons.1 h with rfl | h
    · exact .inl hn
    · exact .inr (weights_sb h hn)
set_option maxRecDepth 100000 in
theorem open_sib {fuel : Nat} {cs : List Value} {x : DataW H × List MemPlace} (h : DataW.trod enc Try.prog W 0 (fun _ => true) true fuel 69 cs = some x) :
    ∃ s : Sb, cs = s.cs ∧ s.a < 4294967296 ∧ s.c < 18446744073709551616 ∧ s.val.size ∈ x.1.weights Try.prog 69 := by
  obtain ⟨xs, n, _, rfl, hl, hlen, hf⟩ := DataW.trod_struct Try.underlying69 h
  rw [cSib] at hl
  match xs, hlen, cs, hl with
  | [y0, y1, y2], _, [v0, v1, v2, v3], _ =>
    have g0 : DataW.trod enc Try.prog W 0 (fun _ => true) true n 53 (List.take (Try.prog.cellsOf 53) (List.drop 0 [v0, v1, v2, v3])) = some y0 := hf 0 _ rfl
    rw [cDot] at g0
    have g1 : DataW.trod enc Try.prog W 0 (fun _ => true) true n 4 (List.take (Try.prog.cellsOf 4) (List.drop 2 [v0, v1, v2, v3])) = some y1 := hf 1 _ rfl
    rw [cBoo] at g1
    have g2 : DataW.trod enc Try.prog W 0 (fun _ => true) true n 9 (List.take (Try.prog.cellsOf 9) (List.drop 3 [v0, v1, v2, v3])) = some y2 := hf 2 _ rfl
    rw [cStr] at g2
    obtain ⟨d, e0, b0, b1⟩ := open_dot g0
    obtain ⟨b, e1, _⟩ := DataW.trod_bool Try.underlying4 g1
    obtain ⟨t, e2, f2, _⟩ := DataW.trod_string Try.underlying9 g2
    simp only [dcs, List.drop_zero, List.drop_succ_cons, List.take_succ_cons, List.take_zero, List.cons.injEq, and_true] at e0 e1 e2
    obtain ⟨rfl, rfl⟩ := e0
    subst e1 e2
    refine ⟨⟨d.1, d.2, b, t⟩, rfl, b0, b1, ?_⟩
    show t.size ∈ DataW.weights Try.prog 69 (.agg [y0.1, y1.1, y2.1])
    rw [f2]
    simp [DataW.weights, Try.underlying69, DataW.weightsEach]
theorem lies_sibs {w : World} {b off : Nat} : ∀ (l : List Sb) (k : Nat), (∀ (j : Nat) (hj : j < l.length), w.rangeAt b (off + (k + j) * 4) l[j].cs) → w.rangeAt b (off + k * 4) (flatS l)
  | [], _, _ => fun j v hv => by simp [flatS] at hv
  | d :: l, k, h => by
    intro j v hv
    have e : flatS (d :: l) = .int .u32 (d.a : Int) :: .int .u64 (d.c : Int) :: .bool d.gone :: .string d.val :: flatS l := rfl
    rw [e] at hv
    have h0 := h 0 (by simp)
    match j, hv with
    | 0, hv => exact h0 0 v (by simpa [Sb.cs] using hv)
    | 1, hv => exact h0 1 v (by simpa [Sb.cs] using hv)
    | 2, hv => exact h0 2 v (by simpa [Sb.cs] using hv)
    | 3, hv => exact h0 3 v (by simpa [Sb.cs] using hv)
    | j + 4, hv =>
      have hr := lies_sibs l (k + 1) (fun i hi => by
        have := h (i + 1) (by simpa using hi)
        rw [show k + 1 + i = k + (i + 1) by omega]
        simpa using this) j v (by simpa using hv)
      rw [show off + k * 4 + (j + 4) = off + (k + 1) * 4 + j by omega]
      exact hr
set_option maxRecDepth 100000 in
theorem open_sibs_cell {fuel : Nat} {cs : List Value} {x : DataW H × List MemPlace} (h : DataW.trod enc Try.prog W 0 (fun _ => true) true fuel 29 cs = some x) (hz : ∀ k ∈ x.1.weights Try.prog 29, k ≤ reachBytes) :
    ∃ (ao : Option Addr) (l : List Sb) (cap : Nat), cs = [.slice ao l.length cap] ∧ Sa W l ao cap := by
  rcases open_slice Try.underlying29 h with ⟨hcs, hx⟩ | ⟨x, len, cap, m, n, D, Pl, rfl, _, hl, hm, hmm, hx, hel⟩
  · exact ⟨none, [], 0, hcs, Sa.none _⟩
  · subst hx
    have hmle : len ≤ m := by rw [hmm]; simp; exact hl
    have hlen : len * 40 ≤ reachBytes := by
      have h1 := hz _ (by simp only [DataW.weights, Try.underlying29]; exact List.mem_cons_self ..)
      simp only [List.length_map, List.length_range, bSib] at h1
      have : (len + ((List.range (m - len)).map fun i => D (len + i)).length) * 40 ≤ reachBytes := by simpa using h1
      omega
    have hspot : 0 < len → x.spot = none := by
      intro h0
      obtain ⟨cs', h1, h2⟩ := hel 0 (by omega)
      rw [cSib] at h1
      obtain ⟨s, rfl, _⟩ := open_sib h2
      obtain ⟨_, _, hc⟩ := World.cells?_some h1
      have := World.cell?_spot (hc 0 (by simp))
      simpa [Addr.add] using this
    have each : ∀ i, i < len → ∃ s : Sb, s.Fit ∧ ∃ b off, x = ⟨b, off, none⟩ ∧ W.rangeAt b (off + i * 4) s.cs := by
      intro i hi
      obtain ⟨cs', h1, h2⟩ := hel i (by omega)
      obtain ⟨s, rfl, hk1, hk2, hk3⟩ := open_sib h2
      rw [cSib] at h1
      obtain ⟨_, _, hc⟩ := World.cells?_some h1
      have hsp := hspot (by omega)
      obtain ⟨b, off, spot⟩ := x
      simp only at hsp
      subst hsp
      simp only [Addr.add_mid] at hc
      have hin : ∀ k, k ∈ (D i).weights Try.prog 69 → k ≤ 140737488355328 := fun k hk => by
        have h4 := hz k (by
          simp only [DataW.weights, Try.underlying29]
          exact List.mem_cons_of_mem _ (List.mem_append_left _ (weights_sb (List.mem_map.2 ⟨i, List.mem_range.2 hi, rfl⟩) hk)))
        exact Nat.le_trans h4 (by decide)
      refine ⟨s, ⟨hk1, hk2, hin _ hk3⟩, b, off, rfl, fun k v hv => ?_⟩
      obtain ⟨hk7, _⟩ := List.getElem?_eq_some_iff.1 hv
      exact (hc k hk7).trans hv
    obtain ⟨l, hll, hi⟩ := choose_list _ len each
    refine ⟨some x, l, cap, by rw [hll], ⟨fun h0 => ?_, by omega, (fun e => by cases e), fun y hy => ?_, ?_⟩⟩
    · rw [flatS_len] at h0
      obtain ⟨_, b, off, rfl, _⟩ := hi 0 (by omega)
      refine ⟨b, off, rfl, ?_⟩
      have := lies_sibs (w := W) (b := b) (off := off) l 0 (fun j hj => by
        obtain ⟨_, b', off', e, hat⟩ := hi j hj
        cases e
        rw [Nat.zero_add]; exact hat)
      simpa using this
    · obtain ⟨j, hj, rfl⟩ := List.mem_iff_getElem.1 hy
      exact (hi j hj).1
    · rw [hll]
      have : reachBytes ≤ 140737488351232 := by decide
      omega
set_option maxRecDepth 100000 in
theorem open_dots_cell {fuel : Nat} {cs : List Value} {x : DataW H × List MemPlace} (h : DataW.trod enc Try.prog W 0 (fun _ => true) true fuel 28 cs = some x) (hz : ∀ k ∈ x.1.weights Try.prog 28, k ≤ reachBytes) :
    ∃ (ao : Option Addr) (l : List (Nat × Nat)) (cap : Nat), cs = [.slice ao l.length cap] ∧ Da W l ao cap := by
  rcases open_slice Try.underlying28 h with ⟨hcs, hx⟩ | ⟨x, len, cap, m, n, D, Pl, rfl, _, hl, hm, hmm, hx, hel⟩
  · exact ⟨none, [], 0, hcs, ⟨⟨Lies.nil _ _, Nat.le_refl _, fun _ => rfl⟩, fun d hd => (by cases hd), Nat.zero_le _⟩⟩
  · subst hx
    have hmle : len ≤ m := by rw [hmm]; simp; exact hl
    have hlen : len * 16 ≤ reachBytes := by
      have h1 := hz _ (by simp only [DataW.weights, Try.underlying28]; exact List.mem_cons_self ..)
      simp only [List.length_map, List.length_range, bDot] at h1
      have : (len + ((List.range (m - len)).map fun i => D (len + i)).length) * 16 ≤ reachBytes := by simpa using h1
      omega
    have hspot : 0 < len → x.spot = none := by
      intro h0
      obtain ⟨cs', h1, h2⟩ := hel 0 (by omega)
      rw [cDot] at h1
      obtain ⟨s, rfl, _⟩ := open_dot h2
      obtain ⟨_, _, hc⟩ := World.cells?_some h1
      have := World.cell?_spot (hc 0 (by simp))
      simpa [Addr.add] using this
    have each : ∀ i, i < len → ∃ s : Nat × Nat, (s.1 < 4294967296 ∧ s.2 < 18446744073709551616) ∧ ∃ b off, x = ⟨b, off, none⟩ ∧ W.rangeAt b (off + i * 2) (dcs s) := by
      intro i hi
      obtain ⟨cs', h1, h2⟩ := hel i (by omega)
      obtain ⟨s, rfl, hk1, hk2⟩ := open_dot h2
      rw [cDot] at h1
      obtain ⟨_, _, hc⟩ := World.cells?_some h1
      have hsp := hspot (by omega)
      obtain ⟨b, off, spot⟩ := x
      simp only at hsp
      subst hsp
      simp only [Addr.add_mid] at hc
      refine ⟨s, ⟨hk1, hk2⟩, b, off, rfl, fun k v hv => ?_⟩
      obtain ⟨hk7, _⟩ := List.getElem?_eq_some_iff.1 hv
      exact (hc k hk7).trans hv
    obtain ⟨l, hll, hi⟩ := choose_list _ len each
    refine ⟨some x, l, cap, by rw [hll], ⟨⟨fun h0 => ?_, by omega, (fun e => by cases e)⟩, fun y hy => ?_, ?_⟩⟩
    · rw [flatD_len] at h0
      obtain ⟨_, b, off, rfl, _⟩ := hi 0 (by omega)
      refine ⟨b, off, rfl, ?_⟩
      have := lies_dots (w := W) (b := b) (off := off) l 0 (fun j hj => by
        obtain ⟨_, b', off', e, hat⟩ := hi j hj
        cases e
        rw [Nat.zero_add]; exact hat)
      simpa using this
    · obtain ⟨j, hj, rfl⟩ := List.mem_iff_getElem.1 hy
      exact (hi j hj).1
    · rw [hll]
      have : reachBytes ≤ 140737488351232 := by decide
      omega
set_option maxRecDepth 100000 in
theorem open_st {base : Nat} {v : Value} {d : DataW H} {ps : List MemPlace} (hval : Value.okWide Try.prog W .any base 31 v) (h : DataW.Trod enc Try.prog W 0 (fun _ => true) true 31 v d ps) (hz : (DataW.weights Try.prog 31 d).all (· ≤ reachBytes) = true) :
    ∃ (s : St) (a : Sv), v = a.v s.seen.length s.sibs.length ∧ SAt W s a := by
  obtain ⟨cs, rfl, hsz⟩ := okWide_struct Try.underlying31 hval
  rw [cState] at hsz
  obtain ⟨fuel, hf⟩ := h
  obtain ⟨xs, n, _, hd, hl, hlen, hf⟩ := DataW.trod_struct Try.underlying31 hf
  obtain ⟨l, rfl⟩ : ∃ l : List Value, cs = l.toArray := ⟨cs.toList, by simp⟩
  have hc : (Value.agg l.toArray).cells.toList = l := by simp [Value.cells]
  rw [hc] at hl hf
  have hall := List.all_eq_true.1 hz
  match xs, hlen, l, hsz with
  | [y0, y1], _, [v0, v1], _ =>
    have hd' : d = .agg [y0.1, y1.1] := by simpa using congrArg Prod.fst hd
    have g0 : DataW.trod enc Try.prog W 0 (fun _ => true) true n 28 (List.take (Try.prog.cellsOf 28) (List.drop 0 [v0, v1])) = some y0 := hf 0 _ rfl
    rw [cDots] at g0
    have g1 : DataW.trod enc Try.prog W 0 (fun _ => true) true n 29 (List.take (Try.prog.cellsOf 29) (List.drop 1 [v0, v1])) = some y1 := hf 1 _ rfl
    rw [cSibs] at g1
    have hin : ∀ k, (k ∈ y0.1.weights Try.prog 28 ∨ k ∈ y1.1.weights Try.prog 29) → k ≤ reachBytes := fun k hk => by
      have h3 := hall k (by
        rw [hd']
        simp only [DataW.weights, Try.underlying31]
        simp [DataW.weightsEach]
        exact hk)
      simpa using h3
    obtain ⟨a1, l1, c1, e1, k1⟩ := open_dots_cell g0 (fun k hk => hin k (.inl hk))
    obtain ⟨a2, l2, c2, e2, k2⟩ := open_sibs_cell g1 (fun k hk => hin k (.inr hk))
    simp only [List.drop_zero, List.drop_succ_cons, List.take_succ_cons, List.take_zero, List.cons.injEq, and_true] at e1 e2
    subst e1 e2
    exact ⟨⟨l1, l2⟩, ⟨a1, c1, a2, c2⟩, rfl, ⟨k1, k2⟩⟩
end
end Go.Proofs.Ytkcbljmjhlnjpaa
namespace Go.Proofs.Ytkcbljmjhlnjpaa
open Go.ChangeShapes Go.WideShapes Go.ChangeAt Go.RowKit Go.Deep
section
variable {H : Type} {enc : TypeId × Value → H} {W : World}
theorem cObject : Try.prog.cellsOf 33 = 3 := by kernel_rfl
theorem cCell : Try.prog.cellsOf 40 = 2 := by kernel_rfl
set_option maxRecDepth 100000 in
theorem open_st_cells {fuel : Nat} {cs : List Value} {x : DataW H × List MemPlace} (h : DataW.trod enc Try.prog W 0 (fun _ => true) true fuel 31 cs = some x) (hz : ∀ k ∈ x.1.weights Try.prog 31, k ≤ reachBytes) :
    ∃ (s : St) (a : Sv), cs = [.slice a.sa s.seen.length a.sc, .slice a.ba s.sibs.length a.bc] ∧ SAt W s a := by
  obtain ⟨xs, n, _, rfl, hl, hlen, hf⟩ := DataW.trod_struct Try.underlying31 h
  rw [cState] at hl
  match xs, hlen, cs, hl with
  | [y0, y1], _, [v0, v1], _ =>
    have g0 : DataW.trod enc Try.prog W 0 (fun _ => true) true n 28 (List.take (Try.prog.cellsOf 28) (List.drop 0 [v0, v1])) = some y0 := hf 0 _ rfl
    rw [cDots] at g0
    have g1 : DataW.trod enc Try.prog W 0 (fun _ => true) true n 29 (List.take (Try.prog.cellsOf 29) (List.drop 1 [v0, v1])) = some y1 := hf 1 _ rfl
    rw [cSibs] at g1
    have hin : ∀ k, (k ∈ y0.1.weights Try.prog 28 ∨ k ∈ y1.1.weights Try.prog 29) → k ≤ reachBytes := fun k hk => hz k (by
      simp only [List.map_cons, List.map_nil, DataW.weights, Try.underlying31]
      simp [DataW.weightsEach]
      exact hk)
    obtain ⟨a1, l1, c1, e1, k1⟩ := open_dots_cell g0 (fun k hk => hin k (.inl hk))
    obtain ⟨a2, l2, c2, e2, k2⟩ := open_sibs_cell g1 (fun k hk => hin k (.inr hk))
    simp only [List.drop_zero, List.drop_succ_cons, List.take_succ_cons, List.take_zero, List.cons.injEq, and_true] at e1 e2
    subst e1 e2
    exact ⟨⟨l1, l2⟩, ⟨a1, c1, a2, c2⟩, rfl, ⟨k1, k2⟩⟩
set_option maxRecDepth 100000 in
theorem open_ob {base : Nat} {v : Value} {d : DataW H} {ps : List MemPlace} (hval : Value.okWide Try.prog W .any base 33 v) (h : DataW.Trod enc Try.prog W 0 (fun _ => true) true 33 v d ps) (hz : (DataW.weights Try.prog 33 d).all (· ≤ reachBytes) = true) :
    ∃ (o : Ot) (a : Sv), v = obV o.key a o.st.seen.length o.st.sibs.length ∧ SAt W o.st a ∧ o.key.size ≤ 140737488351232 := by
  obtain ⟨cs, rfl, hsz⟩ := okWide_struct Try.underlying33 hval
  rw [cObject] at hsz
  obtain ⟨fuel, hf⟩ := h
  obtain ⟨xs, n, _, hd, hl, hlen, hf⟩ := DataW.trod_struct Try.underlying33 hf
  obtain ⟨l, rfl⟩ : ∃ l : List Value, cs = l.toArray := ⟨cs.toList, by simp⟩
  have hc : (Value.agg l.toArray).cells.toList = l := by simp [Value.cells]
  rw [hc] at hl hf
  have hall := List.all_eq_true.1 hz
  match xs, hlen, l, hsz with
  | [y0, y1], _, [v0, v1, v2], _ =>
    have hd' : d = .agg [y0.1, y1.1] := by simpa using congrArg Prod.fst hd
    have g0 : DataW.trod enc Try.prog W 0 (fun _ => true) true n 9 (List.take (Try.prog.cellsOf 9) (List.drop 0 [v0, v1, v2])) = some y0 := hf 0 _ rfl
    rw [cStr] at g0
    have g1 : DataW.trod enc Try.prog W 0 (fun _ => true) true n 31 (List.take (Try.prog.cellsOf 31) (List.drop 1 [v0, v1, v2])) = some y1 := hf 1 _ rfl
    rw [cState] at g1
    have hin : ∀ k, (k ∈ y0.1.weights Try.prog 9 ∨ k ∈ y1.1.weights Try.prog 31) → k ≤ reachBytes := fun k hk => by
      have h3 := hall k (by
        rw [hd']
        rw [DataW.weights, Try.underlying33]
        simp only [List.map_cons, List.map_nil, DataW.weightsEach, List.append_nil, List.mem_append]
        exact hk)
      simpa using h3
    obtain ⟨t, e0, f0, _⟩ := DataW.trod_string Try.underlying9 g0
    obtain ⟨s, a, e1, k1⟩ := open_st_cells g1 (fun k hk => hin k (.inr hk))
    simp only [List.drop_zero, List.drop_succ_cons, List.take_succ_cons, List.take_zero, List.cons.injEq, and_true] at e0 e1
    subst e0
    obtain ⟨rfl, rfl⟩ := e1
    have ht : t.size ≤ reachBytes := hin _ (.inl (by rw [f0]; simp [DataW.weights]))
    exact ⟨⟨t, s⟩, a, rfl, k1, ht⟩
set_option maxRecDepth 100000 in
theorem open_ce {base : Nat} {v : Value} {d : DataW H} {ps : List MemPlace} (hval : Value.okWide Try.prog W .any base 40 v) (h : DataW.Trod enc Try.prog W 0 (fun _ => true) true 40 v d ps) (hz : (DataW.weights Try.prog 40 d).all (· ≤ reachBytes) = true) :
    ∃ (k z : ByteArray), v = .agg #[.string k, .string z] ∧ k.size ≤ 140737488351232 ∧ z.size ≤ 140737488351232 := by
  obtain ⟨cs, rfl, hsz⟩ := okWide_struct Try.underlying40 hval
  rw [cCell] at hsz
  obtain ⟨fuel, hf⟩ := h
  obtain ⟨xs, n, _, hd, hl, hlen, hf⟩ := DataW.trod_struct Try.underlying40 hf
  obtain ⟨l, rfl⟩ : ∃ l : List Value, cs = l.toArray := ⟨cs.toList, by simp⟩
  have hc : (Value.agg l.toArray).cells.toList = l := by simp [Value.cells]
  rw [hc] at hl hf
  have hall := List.all_eq_true.1 hz
  match xs, hlen, l, hsz with
  | [y0, y1], _, [v0, v1], _ =>
    have hd' : d = .agg [y0.1, y1.1] := by simpa using congrArg Prod.fst hd
    have g0 : DataW.trod enc Try.prog W 0 (fun _ => true) true n 9 (List.take (Try.prog.cellsOf 9) (List.drop 0 [v0, v1])) = some y0 := hf 0 _ rfl
    rw [cStr] at g0
    have g1 : DataW.trod enc Try.prog W 0 (fun _ => true) true n 9 (List.take (Try.prog.cellsOf 9) (List.drop 1 [v0, v1])) = some y1 := hf 1 _ rfl
    rw [cStr] at g1
    have hin : ∀ k, (k ∈ y0.1.weights Try.prog 9 ∨ k ∈ y1.1.weights Try.prog 9) → k ≤ reachBytes := fun k hk => by
      have h3 := hall k (by
        rw [hd']
        simp only [DataW.weights, Try.underlying40]
        simp [DataW.weightsEach]
        exact hk)
      simpa using h3
    obtain ⟨t, e0, f0, _⟩ := DataW.trod_string Try.underlying9 g0
    obtain ⟨z, e1, f1, _⟩ := DataW.trod_string Try.underlying9 g1
    simp only [List.drop_zero, List.drop_succ_cons, List.take_succ_cons, List.take_zero, List.cons.injEq, and_true] at e0 e1
    subst e0 e1
    have ht : t.size ≤ reachBytes := hin _ (.inl (by rw [f0]; simp [DataW.weights]))
    have hz2 : z.size ≤ reachBytes := hin _ (.inr (by rw [f1]; simp [DataW.weights]))
    exact ⟨t, z, rfl, ht, hz2⟩
end
end Go.Proofs.Ytkcbljmjhlnjpaa
