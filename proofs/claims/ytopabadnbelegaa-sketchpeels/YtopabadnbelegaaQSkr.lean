/- What came in: numbers of 64 bits (the full form). -/
import Derived.Test.YtopabadnbelegaaQSgl
import Derived.Test.YtopabadnbelegaaQSkq
import Derived.SizedLaws
import Derived.OpenShut
namespace Go.Proofs.Ytopabadnbelegaa.K
open Go.ChangeShapes Go.WideShapes Go.ChangeAt Go.RowKit Go.Deep
open Go.Proofs.Ytopabadnbelegaa.S (Rec Lies Lies.nil choose_list)
section
variable {H : Type} {enc : TypeId × Value → H} {W : World}
theorem cU64 : Try.prog.cellsOf 24 = 1 := by kernel_rfl
theorem bU64 : Try.prog.bytesOf 24 = 8 := by kernel_rfl
set_option maxRecDepth 100000 in
theorem open_w {fuel : Nat} {cs : List Value} {x : DataW H × List MemPlace} (h : DataW.trod enc Try.prog W 0 (fun _ => true) true fuel 24 cs = some x) : ∃ e : BV, cs = RW.cs e := by
  obtain ⟨z, e1, _, w1⟩ := DataW.trod_int Try.underlying24 h
  have hb := bounds_u64 w1
  refine ⟨BitVec.ofNat 64 z.toNat, ?_⟩
  rw [e1]
  show _ = [Value.int .u64 ((BitVec.ofNat 64 z.toNat).toNat : Int)]
  have : ((BitVec.ofNat 64 z.toNat).toNat : Int) = z := by
    rw [BitVec.toNat_ofNat, Nat.mod_eq_of_lt (by have := hb.2; omega)]
    omega
  rw [this]
theorem lies_ws {w : World} {b off : Nat} : ∀ (l : List BV) (k : Nat), (∀ (j : Nat) (hj : j < l.length), w.rangeAt b (off + (k + j) * 1) (RW.cs l[j])) → w.rangeAt b (off + k * 1) (RW.flat l)
  | [], _, _ => fun j v hv => by simp [Rec.flat] at hv
  | d :: l, k, h => by
    intro j v hv
    have e : RW.flat (d :: l) = .int .u64 d.toNat :: RW.flat l := rfl
    rw [e] at hv
    have h0 := h 0 (by simp)
    match j, hv with
    | 0, hv => exact h0 0 v (by simpa [RW] using hv)
    | j + 1, hv =>
      have hr := lies_ws l (k + 1) (fun i hi => by
        have := h (i + 1) (by simpa using hi)
        rw [show k + 1 + i = k + (i + 1) by omega]
        simpa using this) j v (by simpa using hv)
      rw [show off + k * 1 + (j + 1) = off + (k + 1) * 1 + j by omega]
      exact hr
set_option maxRecDepth 100000 in
theorem open_wss {base : Nat} {v : Value} {d : DataW H} {ps : List MemPlace} (hval : Value.okWide Try.prog W .any base 28 v) (h : DataW.Trod enc Try.prog W 0 (fun _ => true) true 28 v d ps) (hz : (DataW.weights Try.prog 28 d).all (· ≤ reachBytes) = true) :
    ∃ (ao : Option Addr) (l : List BV) (n cap : Nat), v = .slice ao n cap ∧ n = l.length ∧ AtW W l ao := by
  obtain ⟨a, len, cap, rfl⟩ := okWide_slice Try.underlying28 hval
  obtain ⟨fuel, hf⟩ := h
  rcases open_slice Try.underlying28 hf with ⟨hcs, hx⟩ | ⟨x, l', c', m, n, D, Pl, hcs, _, hl, hm, hmm, hx, hel⟩
  · simp [Value.cells] at hcs
    obtain ⟨rfl, rfl, rfl⟩ := hcs
    exact ⟨none, [], 0, 0, rfl, rfl, Lies.nil _ _, Nat.zero_le _⟩
  · simp [Value.cells] at hcs
    obtain ⟨rfl, rfl, rfl⟩ := hcs
    simp only [Prod.mk.injEq] at hx
    obtain ⟨rfl, -⟩ := hx
    have hmle : len ≤ m := by rw [hmm]; simp; exact hl
    have hall := List.all_eq_true.1 hz
    have hlen : len * 8 ≤ reachBytes := by
      have h1 := hall _ (by simp only [DataW.weights, Try.underlying28]; exact List.mem_cons_self ..)
      simp only [decide_eq_true_eq, List.length_map, List.length_range, bU64] at h1
      have : (len + ((List.range (m - len)).map fun i => D (len + i)).length) * 8 ≤ reachBytes := by simpa using h1
      omega
    have hspot : 0 < len → x.spot = none := by
      intro h0
      obtain ⟨cs', h1, h2⟩ := hel 0 (by omega)
      rw [cU64] at h1
      obtain ⟨s, rfl⟩ := open_w h2
      obtain ⟨_, _, hc⟩ := World.cells?_some h1
      have := World.cell?_spot (hc 0 (by simp))
      simpa [Addr.add] using this
    have each : ∀ i, i < len → ∃ s : BV, ∃ b off, x = ⟨b, off, none⟩ ∧ W.rangeAt b (off + i * 1) (RW.cs s) := by
      intro i hi
      obtain ⟨cs', h1, h2⟩ := hel i (by omega)
      obtain ⟨s, rfl⟩ := open_w h2
      rw [cU64] at h1
      obtain ⟨_, _, hc⟩ := World.cells?_some h1
      have hsp := hspot (by omega)
      obtain ⟨b, off, spot⟩ := x
      simp only at hsp
      subst hsp
      simp only [Addr.add_mid] at hc
      refine ⟨s, b, off, rfl, fun k v hv => ?_⟩
      obtain ⟨hk7, _⟩ := List.getElem?_eq_some_iff.1 hv
      exact (hc k hk7).trans hv
    obtain ⟨l, hll, hi⟩ := choose_list _ len each
    refine ⟨some x, l, len, cap, rfl, hll.symm, fun h0 => ?_, by have : reachBytes ≤ 140737488351232 := (by decide); omega⟩
    rw [RW.flat_len] at h0
    have h00 : 0 < l.length := Nat.pos_of_ne_zero fun e => by rw [e] at h0; simp at h0
    obtain ⟨b, off, rfl, _⟩ := hi 0 h00
    refine ⟨b, off, rfl, ?_⟩
    have := lies_ws (w := W) (b := b) (off := off) l 0 (fun j hj => by
      obtain ⟨b', off', e, hat⟩ := hi j hj
      cases e
      rw [Nat.zero_add]; exact hat)
    simpa using this
end
/-- One, of any numbers -/
theorem one16_walk (x cs : Int) (h0 : 0 ≤ x) (h1 : x ≤ 18446744073709551615) (ys : List BV) (ao : Option Addr) (n cp : Nat) (hn : n = ys.length) (u : World) (ho : AtW u ys ao) : Calls Try.prog 7 #[.int .u64 x, .int .i64 cs, .slice ao n cp] u fun e u' => e = .returned (.bool true) ∧ Below u.heap.size u u' := by
  have hx : ((BitVec.ofNat 64 x.toNat).toNat : Int) = x := by
    rw [BitVec.toNat_ofNat, Nat.mod_eq_of_lt (by omega)]
    omega
  subst hn
  by_cases hc : 3 ≤ cs ∧ cs ≤ 256
  · have h := one16_core (BitVec.ofNat 64 x.toNat) cs.toNat (by omega) (by omega) cs (.inl (by omega)) ys ao cp u ho
    rw [hx] at h
    exact h
  · have h := one16_core (BitVec.ofNat 64 x.toNat) 3 (by omega) (by omega) cs (.inr ⟨by omega, rfl⟩) ys ao cp u ho
    rw [hx] at h
    exact h
end Go.Proofs.Ytopabadnbelegaa.K
