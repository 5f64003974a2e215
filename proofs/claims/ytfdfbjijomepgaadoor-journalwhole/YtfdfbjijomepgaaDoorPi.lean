/- The page: arrays of bytes: compared, made of a slice, built. -/
import Derived.Test.YtfdfbjijomepgaaDoorPh
import Derived.ChangeKeysEq
import Derived.Laws.StructEq
namespace Go.Proofs.YtfdfbjijomepgaaDoor
open Go.RowKit Go.Lib

theorem getD_at (a : List UInt8) (i : Nat) (h : i < a.length) : a.getD i 0 = a[i] := by simp [List.getD, h]
theorem eqItems_img {P : Program} (w : World) (d : Nat) {e : TypeId} {k' : IntKind} (hu : P.underlying e = some (.int k')) (a b : List UInt8) : ∀ (is : List Nat), (∀ i ∈ is, i < a.length ∧ i < b.length) →
    (Op.eqItems (d + 1) e 1 (img a) (img b) is).run P w = .ok (is.all fun i => a.getD i 0 == b.getD i 0) w
  | [], _ => by simp [Op.eqItems]
  | i :: is, h => by
    obtain ⟨h1, h2⟩ := h i (by simp)
    have hx := img_at a i h1
    have hy := img_at b i h2
    have hp : (part e (img a) (i * 1)).run P w = .ok (.int .u8 (a[i].toNat : Int)) w := by simp [part, isAgg, run_underlying hu, hx]
    have hq : (part e (img b) (i * 1)).run P w = .ok (.int .u8 (b[i].toNat : Int)) w := by simp [part, isAgg, run_underlying hu, hy]
    simp only [Op.eqItems, Sem.run_bind, hp, hq, Result.andThen_ok, run_equalIn_int w d e .u8 k' _ _ hu]
    have ih := eqItems_img w d hu a b is (fun j hj => h j (by simp [hj]))
    rw [List.all_cons, getD_at a i h1, getD_at b i h2]
    by_cases hxy : a[i] = b[i]
    · rw [hxy, beq_self_eq_true, beq_self_eq_true, Bool.true_and]
      exact ih
    · have e1 : ((a[i].toNat : Int) == (b[i].toNat : Int)) = false := by
        rw [beq_eq_false_iff_ne]
        intro h3
        exact hxy (UInt8.toNat.inj (by omega))
      have e2 : (a[i] == b[i]) = false := by rw [beq_eq_false_iff_ne]; exact hxy
      rw [e1, e2, Bool.false_and]
      rfl
theorem img_eq_iff (a b : List UInt8) (ha : a.length = 1024) (hb : b.length = 1024) : ((List.range 1024).all fun i => a.getD i 0 == b.getD i 0) = decide (a = b) := by
  by_cases h : a = b
  · subst h; simp
  · rw [decide_eq_false h]
    cases hq : ((List.range 1024).all fun i => a.getD i 0 == b.getD i 0) with
    | false => rfl
    | true =>
      exfalso
      apply h
      rw [List.all_eq_true] at hq
      refine List.ext_getElem (by omega) fun i h1 h2 => ?_
      have := eq_of_beq (hq i (List.mem_range.2 (by omega)))
      rwa [getD_at a i h1, getD_at b i h2] at this
theorem eqImg (a b : List UInt8) (ha : a.length = 1024) (hb : b.length = 1024) (w : World) : (Op.equalIn 10000 126 (.agg (img a)) (.agg (img b))).run Tryd.prog w = .ok (decide (a = b)) w := by
  have hi : (Tryd.prog.info? 5).map (·.size) = some 1 := by kernel_rfl
  cases hq : Tryd.prog.info? 5 with
  | none => simp [hq] at hi
  | some i =>
    have hs : i.size = 1 := by simpa [hq] using hi
    have hc : Tryd.prog.cellsOf 5 = 1 := by simp [Program.cellsOf, hq, hs]
    rw [show 10000 = 9998 + 1 + 1 from rfl, run_equalIn_array w _ (img a) (img b) Tryd.underlying126 hq, hc, ← img_eq_iff a b ha hb]
    exact eqItems_img w _ Tryd.underlying5 a b _ fun j hj => ⟨by have := List.mem_range.1 hj; omega, by have := List.mem_range.1 hj; omega⟩
theorem wpList_val {P : Program} {ops : Array Oper} {rest : List Oper} {o : Oper} {a : Act} {w : World} {Q : Exit → Act → World → Prop} (hgd : o.guard = none) (d : Option Tmp) (hd : o.dst = d) (v : Value)
    (hrun : (execOp a.eval o).run P w = .ok (.value v) w) (h : wpList P ops Q rest (a.put d v) w) : wpList P ops Q (o :: rest) a w := by
  subst hd
  refine wpList_plain hgd fun K hK => ?_
  unfold Oper.wp
  rw [hrun]
  exact hK _ _ h
theorem run_toArr (ad : Addr) (cap : Nat) (w : World) : (Instr.arrayAt 126 (.slice (some ad) 1024 cap)).run Tryd.prog w = .ok (.pointer (some ad)) w := by
  simp [Instr.arrayAt, run_underlying Tryd.underlying126]
theorem run_zeroImg (w : World) : (Instr.build 126 #[]).run Tryd.prog w = .ok (.agg (img (zeros 1024))) w := run_build w 126 #[] (img (zeros 1024)) (by kernel_rfl)
end Go.Proofs.YtfdfbjijomepgaaDoor
