/- What came in: items, bytes (the second form). Written by mkshn.py. -/
import Derived.Test.YtbahlfpcbplofaaSgl
import Derived.Test.YtbahlfpcbplofaaSgp
import Derived.SizedLaws
import Derived.OpenShut
namespace Go.Proofs.Ytbahlfpcbplofaa.S
open Go.ChangeShapes Go.WideShapes Go.ChangeAt Go.RowKit Go.Deep
section
variable {H : Type} {enc : TypeId × Value → H} {W : World}
theorem cI64 : Try.prog.cellsOf 3 = 1 := by kernel_rfl
theorem cU8 : Try.prog.cellsOf 5 = 1 := by kernel_rfl
theorem cIt : Try.prog.cellsOf 57 = 2 := by kernel_rfl
set_option maxRecDepth 100000 in
theorem open_it {fuel : Nat} {cs : List Value} {x : DataW H × List MemPlace} (h : DataW.trod enc Try.prog W 0 (fun _ => true) true fuel 57 cs = some x) : ∃ e : It, cs = ics e := by
  obtain ⟨xs, n, _, rfl, hl, hlen, hf⟩ := DataW.trod_struct Try.underlying57 h
  rw [cIt] at hl
  match xs, hlen, cs, hl with
  | [y0, y1], _, [v0, v1], _ =>
    have g0 : DataW.trod enc Try.prog W 0 (fun _ => true) true n 9 (List.take (Try.prog.cellsOf 9) (List.drop 0 [v0, v1])) = some y0 := hf 0 _ rfl
    rw [cStr] at g0
    have g1 : DataW.trod enc Try.prog W 0 (fun _ => true) true n 3 (List.take (Try.prog.cellsOf 3) (List.drop 1 [v0, v1])) = some y1 := hf 1 _ rfl
    rw [cI64] at g1
    obtain ⟨t, e0, _, _⟩ := DataW.trod_string Try.underlying9 g0
    obtain ⟨z, e1, _, _⟩ := DataW.trod_int Try.underlying3 g1
    simp only [List.drop_zero, List.drop_succ_cons, List.take_succ_cons, List.take_zero, List.cons.injEq, and_true] at e0 e1
    subst e0 e1
    exact ⟨(t, z), rfl⟩
theorem open_un {fuel : Nat} {cs : List Value} {x : DataW H × List MemPlace} (h : DataW.trod enc Try.prog W 0 (fun _ => true) true fuel 5 cs = some x) : ∃ e : UInt8, cs = ucs e := by
  obtain ⟨z, e1, _, w1⟩ := DataW.trod_int Try.underlying5 h
  have hb := bounds_u8 w1
  refine ⟨UInt8.ofNat z.toNat, ?_⟩
  rw [e1]
  unfold ucs
  have : ((UInt8.ofNat z.toNat).toNat : Int) = z := by
    rw [UInt8.toNat_ofNat']
    omega
  rw [this]
theorem lies_its {w : World} {b off : Nat} : ∀ (l : List It) (k : Nat), (∀ (j : Nat) (hj : j < l.length), w.rangeAt b (off + (k + j) * 2) (ics l[j])) → w.rangeAt b (off + k * 2) (RI.flat l)
  | [], _, _ => fun j v hv => by simp [Rec.flat] at hv
  | d :: l, k, h => by
    intro j v hv
    have e : RI.flat (d :: l) = .string d.1 :: .int .i64 d.2 :: RI.flat l := rfl
    rw [e] at hv
    have h0 := h 0 (by simp)
    match j, hv with
    | 0, hv => exact h0 0 v (by simpa [ics] using hv)
    | 1, hv => exact h0 1 v (by simpa [ics] using hv)
    | j + 2, hv =>
      have hr := lies_its l (k + 1) (fun i hi => by
        have := h (i + 1) (by simpa using hi)
        rw [show k + 1 + i = k + (i + 1) by omega]
        simpa using this) j v (by simpa using hv)
      rw [show off + k * 2 + (j + 2) = off + (k + 1) * 2 + j by omega]
      exact hr
theorem lies_us {w : World} {b off : Nat} : ∀ (l : List UInt8) (k : Nat), (∀ (j : Nat) (hj : j < l.length), w.rangeAt b (off + (k + j) * 1) (ucs l[j])) → w.rangeAt b (off + k * 1) (RU.flat l)
  | [], _, _ => fun j v hv => by simp [Rec.flat] at hv
  | d :: l, k, h => by
    intro j v hv
    have e : RU.flat (d :: l) = .int .u8 (d.toNat : Int) :: RU.flat l := rfl
    rw [e] at hv
    have h0 := h 0 (by simp)
    match j, hv with
    | 0, hv => exact h0 0 v (by simpa [ucs] using hv)
    | j + 1, hv =>
      have hr := lies_us l (k + 1) (fun i hi => by
        have := h (i + 1) (by simpa using hi)
        rw [show k + 1 + i = k + (i + 1) by omega]
        simpa using this) j v (by simpa using hv)
      rw [show off + k * 1 + (j + 1) = off + (k + 1) * 1 + j by omega]
      exact hr

set_option maxRecDepth 100000 in
theorem open_its {base : Nat} {v : Value} {d : DataW H} {ps : List MemPlace} (hval : Value.okWide Try.prog W .any base 51 v) (h : DataW.Trod enc Try.prog W 0 (fun _ => true) true 51 v d ps) (hk : Rows.uptoBulk d ≤ 1048576) :
    ∃ (ao : Option Addr) (l : List It) (n cap : Nat), v = .slice ao n cap ∧ Il W l ao n cap ∧ n ≤ 1048576 := by
  obtain ⟨a, len, cap, rfl⟩ := okWide_slice Try.underlying51 hval
  obtain ⟨fuel, hf⟩ := h
  rcases open_slice Try.underlying51 hf with ⟨hcs, hx⟩ | ⟨x, l', c', m, n, D, Pl, hcs, _, hl, hm, hmm, hx, hel⟩
  · simp [Value.cells] at hcs
    obtain ⟨rfl, rfl, rfl⟩ := hcs
    exact ⟨none, [], 0, 0, rfl, ⟨Rec.At.none _, rfl⟩, Nat.zero_le _⟩
  · simp [Value.cells] at hcs
    obtain ⟨rfl, rfl, rfl⟩ := hcs
    simp only [Prod.mk.injEq] at hx
    obtain ⟨rfl, -⟩ := hx
    have hmle : len ≤ m := by rw [hmm]; simp; exact hl
    have hlen : len ≤ 1048576 := Nat.le_trans (bulk_len len _ _) hk
    have hspot : 0 < len → x.spot = none := by
      intro h0
      obtain ⟨cs', h1, h2⟩ := hel 0 (by omega)
      rw [cIt] at h1
      obtain ⟨s, rfl⟩ := open_it h2
      obtain ⟨_, _, hc⟩ := World.cells?_some h1
      have := World.cell?_spot (hc 0 (by simp))
      simpa [Addr.add] using this
    have each : ∀ i, i < len → ∃ s : It, ∃ b off, x = ⟨b, off, none⟩ ∧ W.rangeAt b (off + i * 2) (ics s) := by
      intro i hi
      obtain ⟨cs', h1, h2⟩ := hel i (by omega)
      obtain ⟨s, rfl⟩ := open_it h2
      rw [cIt] at h1
      obtain ⟨_, _, hc⟩ := World.cells?_some h1
      have hsp := hspot (by omega)
      obtain ⟨b, off, spot⟩ := x
      simp only at hsp
      subst hsp
      simp only [Addr.add_mid] at hc
      refine ⟨s, b, off, rfl, fun k v hv => ?_⟩
      obtain ⟨hk7, _⟩ := List.getElem?_eq_some_iff.1 hv
      exact (hc k hk7).trans hv
    obtain ⟨l, hll, hi⟩ := choose_list _ len each
    refine ⟨some x, l, len, cap, rfl, ⟨⟨fun h0 => ?_, by omega, (fun e => by cases e), by omega⟩, hll.symm⟩, hlen⟩
    rw [RI.flat_len] at h0
    have h00 : 0 < l.length := Nat.pos_of_ne_zero fun e => by rw [e] at h0; simp at h0
    obtain ⟨b, off, rfl, _⟩ := hi 0 h00
    refine ⟨b, off, rfl, ?_⟩
    have := lies_its (w := W) (b := b) (off := off) l 0 (fun j hj => by
      obtain ⟨b', off', e, hat⟩ := hi j hj
      cases e
      rw [Nat.zero_add]; exact hat)
    simpa using this

set_option maxRecDepth 100000 in
theorem open_us {base : Nat} {v : Value} {d : DataW H} {ps : List MemPlace} (hval : Value.okWide Try.prog W .any base 52 v) (h : DataW.Trod enc Try.prog W 0 (fun _ => true) true 52 v d ps) (hk : Rows.uptoBulk d ≤ 1048576) :
    ∃ (ao : Option Addr) (l : List UInt8) (n cap : Nat), v = .slice ao n cap ∧ Ul W l ao n cap ∧ n ≤ 1048576 := by
  obtain ⟨a, len, cap, rfl⟩ := okWide_slice Try.underlying52 hval
  obtain ⟨fuel, hf⟩ := h
  rcases open_slice Try.underlying52 hf with ⟨hcs, hx⟩ | ⟨x, l', c', m, n, D, Pl, hcs, _, hl, hm, hmm, hx, hel⟩
  · simp [Value.cells] at hcs
    obtain ⟨rfl, rfl, rfl⟩ := hcs
    exact ⟨none, [], 0, 0, rfl, ⟨Rec.At.none _, rfl⟩, Nat.zero_le _⟩
  · simp [Value.cells] at hcs
    obtain ⟨rfl, rfl, rfl⟩ := hcs
    simp only [Prod.mk.injEq] at hx
    obtain ⟨rfl, -⟩ := hx
    have hmle : len ≤ m := by rw [hmm]; simp; exact hl
    have hlen : len ≤ 1048576 := Nat.le_trans (bulk_len len _ _) hk
    have hspot : 0 < len → x.spot = none := by
      intro h0
      obtain ⟨cs', h1, h2⟩ := hel 0 (by omega)
      rw [cU8] at h1
      obtain ⟨s, rfl⟩ := open_un h2
      obtain ⟨_, _, hc⟩ := World.cells?_some h1
      have := World.cell?_spot (hc 0 (by simp))
      simpa [Addr.add] using this
    have each : ∀ i, i < len → ∃ s : UInt8, ∃ b off, x = ⟨b, off, none⟩ ∧ W.rangeAt b (off + i * 1) (ucs s) := by
      intro i hi
      obtain ⟨cs', h1, h2⟩ := hel i (by omega)
      obtain ⟨s, rfl⟩ := open_un h2
      rw [cU8] at h1
      obtain ⟨_, _, hc⟩ := World.cells?_some h1
      have hsp := hspot (by omega)
      obtain ⟨b, off, spot⟩ := x
      simp only at hsp
      subst hsp
      simp only [Addr.add_mid] at hc
      refine ⟨s, b, off, rfl, fun k v hv => ?_⟩
      obtain ⟨hk7, _⟩ := List.getElem?_eq_some_iff.1 hv
      exact (hc k hk7).trans hv
    obtain ⟨l, hll, hi⟩ := choose_list _ len each
    refine ⟨some x, l, len, cap, rfl, ⟨⟨fun h0 => ?_, by omega, (fun e => by cases e), by omega⟩, hll.symm⟩, hlen⟩
    rw [RU.flat_len] at h0
    have h00 : 0 < l.length := Nat.pos_of_ne_zero fun e => by rw [e] at h0; simp at h0
    obtain ⟨b, off, rfl, _⟩ := hi 0 h00
    refine ⟨b, off, rfl, ?_⟩
    have := lies_us (w := W) (b := b) (off := off) l 0 (fun j hj => by
      obtain ⟨b', off', e, hat⟩ := hi j hj
      cases e
      rw [Nat.zero_add]; exact hat)
    simpa using this

end
end Go.Proofs.Ytbahlfpcbplofaa.S
