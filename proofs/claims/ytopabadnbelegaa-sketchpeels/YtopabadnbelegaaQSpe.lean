/- What came in: cells of sketches (the full form). -/
import Derived.Test.YtopabadnbelegaaQSgl
import Derived.Test.YtopabadnbelegaaQSkr
import Derived.Test.YtopabadnbelegaaQSpc
import Derived.SizedLaws
import Derived.OpenShut
namespace Go.Proofs.Ytopabadnbelegaa.K
open Go.ChangeShapes Go.WideShapes Go.ChangeAt Go.RowKit Go.Deep
open Go.Proofs.Ytopabadnbelegaa.S (Rec Lies Lies.nil choose_list)
section
variable {H : Type} {enc : TypeId × Value → H} {W : World}
theorem cI16 : Try.prog.cellsOf 51 = 1 := by kernel_rfl
theorem cU32 : Try.prog.cellsOf 55 = 1 := by kernel_rfl
theorem cCe : Try.prog.cellsOf 57 = 3 := by kernel_rfl
theorem bCe : Try.prog.bytesOf 57 = 24 := by kernel_rfl
set_option maxRecDepth 100000 in
theorem open_sce {fuel : Nat} {cs : List Value} {x : DataW H × List MemPlace} (h : DataW.trod enc Try.prog W 0 (fun _ => true) true fuel 57 cs = some x) : ∃ e : Ce, cs = ceL e := by
  obtain ⟨xs, n, _, rfl, hl, hlen, hf⟩ := DataW.trod_struct Try.underlying57 h
  rw [cCe] at hl
  match xs, hlen, cs, hl with
  | [y0, y1, y2], _, [v0, v1, v2], _ =>
    have g0 : DataW.trod enc Try.prog W 0 (fun _ => true) true n 51 (List.take (Try.prog.cellsOf 51) (List.drop 0 [v0, v1, v2])) = some y0 := hf 0 _ rfl
    rw [cI16] at g0
    have g1 : DataW.trod enc Try.prog W 0 (fun _ => true) true n 24 (List.take (Try.prog.cellsOf 24) (List.drop 1 [v0, v1, v2])) = some y1 := hf 1 _ rfl
    rw [cU64] at g1
    have g2 : DataW.trod enc Try.prog W 0 (fun _ => true) true n 55 (List.take (Try.prog.cellsOf 55) (List.drop 2 [v0, v1, v2])) = some y2 := hf 2 _ rfl
    rw [cU32] at g2
    obtain ⟨z0, e0, _, w0⟩ := DataW.trod_int Try.underlying51 g0
    obtain ⟨z1, e1, _, w1⟩ := DataW.trod_int Try.underlying24 g1
    obtain ⟨z2, e2, _, w2⟩ := DataW.trod_int Try.underlying55 g2
    simp only [List.drop_zero, List.drop_succ_cons, List.take_succ_cons, List.take_zero, List.cons.injEq, and_true] at e0 e1 e2
    subst e0 e1 e2
    have b0 : -32768 ≤ z0 ∧ z0 ≤ 32767 := bounds_i16 w0
    have b1 := bounds_u64 w1
    have b2 := bounds_u32 w2
    refine ⟨⟨BitVec.ofInt 16 z0, BitVec.ofNat 64 z1.toNat, BitVec.ofNat 32 z2.toNat⟩, ?_⟩
    have t0 : (BitVec.ofInt 16 z0).toInt = z0 := by
      rw [BitVec.toInt_ofInt, Int.bmod_def]
      simp only [Nat.reducePow]
      omega
    have t1 : ((BitVec.ofNat 64 z1.toNat).toNat : Int) = z1 := by
      rw [BitVec.toNat_ofNat, Nat.mod_eq_of_lt (by have := b1.2; omega)]
      omega
    have t2 : ((BitVec.ofNat 32 z2.toNat).toNat : Int) = z2 := by
      rw [BitVec.toNat_ofNat, Nat.mod_eq_of_lt (by have := b2.2; omega)]
      omega
    unfold ceL
    dsimp only
    rw [t0, t1, t2]
theorem lies_ces {w : World} {b off : Nat} : ∀ (l : List Ce) (k : Nat), (∀ (j : Nat) (hj : j < l.length), w.rangeAt b (off + (k + j) * 3) (ceL l[j])) → w.rangeAt b (off + k * 3) (RC.flat l)
  | [], _, _ => fun j v hv => by simp [Rec.flat] at hv
  | d :: l, k, h => by
    intro j v hv
    have e : RC.flat (d :: l) = .int .i16 d.c.toInt :: .int .u64 d.x.toNat :: .int .u32 d.k.toNat :: RC.flat l := rfl
    rw [e] at hv
    have h0 := h 0 (by simp)
    match j, hv with
    | 0, hv => exact h0 0 v (by simpa [ceL] using hv)
    | 1, hv => exact h0 1 v (by simpa [ceL] using hv)
    | 2, hv => exact h0 2 v (by simpa [ceL] using hv)
    | j + 3, hv =>
      have hr := lies_ces l (k + 1) (fun i hi => by
        have := h (i + 1) (by simpa using hi)
        rw [show k + 1 + i = k + (i + 1) by omega]
        simpa using this) j v (by simpa using hv)
      rw [show off + k * 3 + (j + 3) = off + (k + 1) * 3 + j by omega]
      exact hr
set_option maxRecDepth 100000 in
theorem open_ces {base : Nat} {v : Value} {d : DataW H} {ps : List MemPlace} (hval : Value.okWide Try.prog W .any base 32 v) (h : DataW.Trod enc Try.prog W 0 (fun _ => true) true 32 v d ps) (hz : (DataW.weights Try.prog 32 d).all (· ≤ reachBytes) = true) :
    ∃ (ao : Option Addr) (l : List Ce) (cap : Nat), v = .slice ao l.length cap ∧ RC.At0 W l ao cap ∧ l.length * 24 ≤ 140737488355328 := by
  obtain ⟨a, len, cap, rfl⟩ := okWide_slice Try.underlying32 hval
  obtain ⟨fuel, hf⟩ := h
  rcases open_slice Try.underlying32 hf with ⟨hcs, hx⟩ | ⟨x, l', c', m, n, D, Pl, hcs, _, hl, hm, hmm, hx, hel⟩
  · simp [Value.cells] at hcs
    obtain ⟨rfl, rfl, rfl⟩ := hcs
    exact ⟨none, [], 0, rfl, ⟨Lies.nil _ _, Nat.le_refl _, fun _ => rfl⟩, by decide⟩
  · simp [Value.cells] at hcs
    obtain ⟨rfl, rfl, rfl⟩ := hcs
    simp only [Prod.mk.injEq] at hx
    obtain ⟨rfl, -⟩ := hx
    have hmle : len ≤ m := by rw [hmm]; simp; exact hl
    have hall := List.all_eq_true.1 hz
    have hlen : len * 24 ≤ reachBytes := by
      have h1 := hall _ (by simp only [DataW.weights, Try.underlying32]; exact List.mem_cons_self ..)
      simp only [decide_eq_true_eq, List.length_map, List.length_range, bCe] at h1
      have : (len + ((List.range (m - len)).map fun i => D (len + i)).length) * 24 ≤ reachBytes := by simpa using h1
      omega
    have hspot : 0 < len → x.spot = none := by
      intro h0
      obtain ⟨cs', h1, h2⟩ := hel 0 (by omega)
      rw [cCe] at h1
      obtain ⟨s, rfl⟩ := open_sce h2
      obtain ⟨_, _, hc⟩ := World.cells?_some h1
      have := World.cell?_spot (hc 0 (by decide))
      simpa [Addr.add] using this
    have each : ∀ i, i < len → ∃ s : Ce, ∃ b off, x = ⟨b, off, none⟩ ∧ W.rangeAt b (off + i * 3) (ceL s) := by
      intro i hi
      obtain ⟨cs', h1, h2⟩ := hel i (by omega)
      obtain ⟨s, rfl⟩ := open_sce h2
      rw [cCe] at h1
      obtain ⟨_, _, hc⟩ := World.cells?_some h1
      have hsp := hspot (by omega)
      obtain ⟨b, off, spot⟩ := x
      simp only at hsp
      subst hsp
      simp only [Addr.add_mid] at hc
      refine ⟨s, b, off, rfl, fun k v hv => ?_⟩
      obtain ⟨hk7, _⟩ := List.getElem?_eq_some_iff.1 hv
      exact (hc k hk7).trans hv
    obtain ⟨l, hll, hi⟩ := choose_list _ len each
    refine ⟨some x, l, cap, by rw [hll], ⟨fun h0 => ?_, by rw [hll]; exact hl, fun e => by cases e⟩, by have : reachBytes ≤ 140737488351232 := (by decide); omega⟩
    rw [RC.flat_len] at h0
    have h00 : 0 < l.length := Nat.pos_of_ne_zero fun e => by rw [e] at h0; simp at h0
    obtain ⟨b, off, rfl, _⟩ := hi 0 h00
    refine ⟨b, off, rfl, ?_⟩
    have := lies_ces (w := W) (b := b) (off := off) l 0 (fun j hj => by
      obtain ⟨b', off', e, hat⟩ := hi j hj
      cases e
      rw [Nat.zero_add]; exact hat)
    simpa using this
end
end Go.Proofs.Ytopabadnbelegaa.K
