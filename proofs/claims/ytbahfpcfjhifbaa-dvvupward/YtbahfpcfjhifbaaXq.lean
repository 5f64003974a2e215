/- Vectors: the calls, of lists that lie in an elder world and stay. -/
import Derived.Test.YtbahfpcfjhifbaaXp
import Derived.Deep.DeepCutAuto
namespace Go.Proofs.Ytbahfpcfjhifbaa
open Go.RowKit
section
variable {W0 : World} {a b : List (Nat × Nat)} {xa xb : Option Addr} {ca cb na nb : Nat}
theorem kBelow (r : Bool) (hr : belB a b = r) (ea : na = a.length) (eb : nb = b.length) (ha : Da W0 a xa ca) (hb : Da W0 b xb cb) (W : World) (hW : Below W0.heap.size W0 W) : Calls Try.prog 36 #[.slice xa na ca, .slice xb nb cb] W fun e W' => e = .returned (.bool r) ∧ Below W0.heap.size W0 W' := by
  subst hr ea eb
  exact (vBelow a b xa xb ca cb W (ha.below hW) (hb.below hW)).mono fun e W' h => ⟨h.1, hW.trans (h.2.mono hW.size)⟩
theorem kValid (r : Bool) (hr : V.okB a = r) (ea : na = a.length) (ha : Da W0 a xa ca) (W : World) (hW : Below W0.heap.size W0 W) : Calls Try.prog 39 #[.slice xa na ca] W fun e W' => e = .returned (.bool r) ∧ Below W0.heap.size W0 W' := by
  subst hr ea
  exact (vValid a xa ca W (ha.below hW).at).mono fun e W' h => ⟨h.1, hW.trans (h.2.mono hW.size)⟩
theorem kCount (x r : Nat) (hr : V.cntV a x = r) (ea : na = a.length) (ha : Da W0 a xa ca) (W : World) (hW : Below W0.heap.size W0 W) : Calls Try.prog 74 #[.slice xa na ca, .int .u32 (x : Int)] W fun e W' => e = .returned (.int .u64 (r : Int)) ∧ Below W0.heap.size W0 W' := by
  subst hr ea
  exact (vCount a xa ca x W (ha.below hW).at).mono fun e W' h => ⟨h.1, hW.trans (h.2.mono hW.size)⟩
theorem kCovers (x y : Nat) (r : Bool) (hr : covB a (x, y) = r) (ea : na = a.length) (ha : Da W0 a xa ca) (W : World) (hW : Below W0.heap.size W0 W) : Calls Try.prog 35 #[.slice xa na ca, .agg #[.int .u32 (x : Int), .int .u64 (y : Int)]] W fun e W' => e = .returned (.bool r) ∧ Below W0.heap.size W0 W' := by
  subst hr ea
  exact (vCovers a xa ca (x, y) W (ha.below hW).at).mono fun e W' h => ⟨h.1, hW.trans (h.2.mono hW.size)⟩
theorem kMax (m : List (Nat × Nat)) (r : Int) (hr : maxV a b = (m, r)) (ea : na = a.length) (eb : nb = b.length) (ha : Da W0 a xa ca) (hb : Da W0 b xb cb) (W : World) (hW : Below W0.heap.size W0 W) : Calls Try.prog 54 #[.slice xa na ca, .slice xb nb cb] W fun e W' => ∃ xm nm cm, e = .returned (.tuple #[.slice xm nm cm, .int .i64 r]) ∧ nm = m.length ∧ Da W' m xm cm ∧ Below W0.heap.size W0 W' := by
  subst ea eb
  refine (vMax a b xa xb ca cb W (ha.below hW) (hb.below hW)).mono ?_
  rintro e W' ⟨xm, cm, he, ho, hb'⟩
  rw [hr] at he ho
  have hm : m = (maxV a b).1 := by rw [hr]
  refine ⟨xm, _, cm, he, rfl, ⟨ho.dv, ?_, ?_⟩, hW.trans (hb'.mono hW.size)⟩
  · rw [hm]; unfold maxV
    split
    · split
      · exact fits_mrg ha.fits hb.fits
      · exact fun d hd => (by cases hd)
    · exact fun d hd => (by cases hd)
  · rw [hm]; unfold maxV
    split
    · split
      · exact Nat.le_trans ‹_› (by decide)
      · exact Nat.zero_le _
    · exact Nat.zero_le _
end
theorem max_ok {a b : List (Nat × Nat)} (ha : V.Ok a) (hb : V.Ok b) (h : (V.mrg a b).length ≤ 64) : maxV a b = (V.mrg a b, 0) := by
  unfold maxV; rw [V.okB_true.2 ha, V.okB_true.2 hb]; simp [h]
theorem max_big {a b : List (Nat × Nat)} (ha : V.Ok a) (hb : V.Ok b) (h : ¬ (V.mrg a b).length ≤ 64) : maxV a b = ([], 82) := by
  unfold maxV; rw [V.okB_true.2 ha, V.okB_true.2 hb]; simp [h]
theorem mrg_ok {a b : List (Nat × Nat)} (ha : V.Ok a) (hb : V.Ok b) (h : (V.mrg a b).length ≤ 64) : V.Ok (V.mrg a b) := ⟨V.mrg_vec ha.toVec hb.toVec, h⟩
theorem cnt_ok {a : List (Nat × Nat)} (ha : V.Ok a) (x : Nat) : V.cntV a x = V.cnt a x := by unfold V.cntV; rw [V.okB_true.2 ha]; rfl
theorem da_none (w : World) : Da w [] none 0 := ⟨⟨Lies.nil _ _, Nat.le_refl _, fun _ => rfl⟩, fun d hd => (by cases hd), Nat.zero_le _⟩
theorem ok_nil : V.Ok [] := ⟨V.vec_nil, Nat.zero_le _⟩
end Go.Proofs.Ytbahfpcfjhifbaa
