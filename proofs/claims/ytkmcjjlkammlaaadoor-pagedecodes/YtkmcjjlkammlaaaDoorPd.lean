/- The table as the rows list it; what the cards ask. -/
import Derived.Test.YtkmcjjlkammlaaaDoorPl
import Derived.OpenShut
import Derived.SizedLaws
import Derived.Test.YtkmcjjlkammlaaaDoorCards
import Derived.Test.YtkmcjjlkammlaaaDoorTie
import Derived.Deep.DeepHandedRow
import Derived.Lib.LaidTab
import Derived.ShutString
import Derived.ChangeOld
import Derived.Below
namespace Go.Proofs.YtkmcjjlkammlaaaDoor
open Go.RowKit Crc Go.ChangeShapes Go.WideShapes Go.ChangeAt

theorem own : ownKnob Tryd.prog.godebug = none := by kernel_rfl
theorem laidOut : laidOutB Tryd.prog = true := by kernel_rfl
theorem gTab : Tryd.prog.globalNamed "concord/wire.fourSteps" = some 0 := by kernel_rfl
theorem gTabType : (Tryd.prog.globals[0]?).map (·.type) = some 80 := by kernel_rfl
theorem cellsTab : Tryd.prog.cellsOf 80 = 16 := by kernel_rfl
theorem cellsU32 : Tryd.prog.cellsOf 22 = 1 := by kernel_rfl
theorem table {W : World} (h : laidMetH Tryd.prog [("concord/wire.fourSteps", Rows.laid_concord_wire_fourSteps)] W) :
    Lib.TabIs Tryd.prog W "concord/wire.fourSteps" .u32 [0, 274646895, 549293790, 820201905, 1098587580, 1361435347, 1640403810, 1905808397, 2197175160, 2460548119, 2722870694, 2987750089, 3280807620, 3553878443, 3811616794, 4084100981] :=
  Lib.tabIs_of_head (rest := []) gTab gTabType Tryd.underlying80 Tryd.underlying22 cellsU32 cellsTab h
theorem tab_of {W : World} (h : laidMetH Tryd.prog [("concord/wire.fourSteps", Rows.laid_concord_wire_fourSteps)] W) : Tab W := fun i hi => by
  have h1 := (table h).cell gTab i (by simpa using hi)
  rw [h1]
  have : ∀ i : Fin 16, ([0, 274646895, 549293790, 820201905, 1098587580, 1361435347, 1640403810, 1905808397, 2197175160, 2460548119, 2722870694, 2987750089, 3280807620, 3553878443, 3811616794, 4084100981] : List Int).getD i.1 0 = ((tab i.1 : Nat) : Int) := by decide
  rw [this ⟨i, hi⟩]
/-- the table's world for a witness -/
noncomputable def laidWorld (os : Os) : World :=
  { World.holding Tryd.prog os ⟨#[], #[], []⟩ with heap := (World.holding Tryd.prog os ⟨#[], #[], []⟩).heap.modify 0 fun
      | .cells _ t frozen => .cells #[.int .u32 0, .int .u32 274646895, .int .u32 549293790, .int .u32 820201905, .int .u32 1098587580, .int .u32 1361435347, .int .u32 1640403810, .int .u32 1905808397, .int .u32 2197175160, .int .u32 2460548119, .int .u32 2722870694, .int .u32 2987750089, .int .u32 3280807620, .int .u32 3553878443, .int .u32 3811616794, .int .u32 4084100981] t frozen
      | o => o }
section
variable {H : Type} {enc : TypeId × Value → H} {W : World}
theorem cellsPage : Tryd.prog.cellsOf 25 = 4 := by kernel_rfl
theorem cU8' : Tryd.prog.cellsOf 5 = 1 := by kernel_rfl
theorem cU64' : Tryd.prog.cellsOf 23 = 1 := by kernel_rfl
theorem cStr' : Tryd.prog.cellsOf 9 = 1 := by kernel_rfl
/-- a page that came in -/
theorem open_page {base : Nat} {v : Value} {d : DataW H} {ps : List MemPlace} (hval : Value.okWide Tryd.prog W .any base 25 v) (h : DataW.Trod enc Tryd.prog W 0 (fun _ => true) true 25 v d ps) :
    ∃ p : Pg, v = .agg p.cs ∧ p.Fit := by
  obtain ⟨cs, rfl, hsz⟩ : ∃ cs, v = .agg cs ∧ cs.size = Tryd.prog.cellsOf 25 := by
    unfold Value.okWide at hval
    rw [Tryd.underlying25] at hval
    obtain ⟨cs, h1, h2, _⟩ := hval
    exact ⟨cs, h1, h2⟩
  rw [cellsPage] at hsz
  obtain ⟨fuel, hf⟩ := h
  obtain ⟨xs, n, _, _, hl, hlen, hf⟩ := DataW.trod_struct Tryd.underlying25 hf
  obtain ⟨l, rfl⟩ : ∃ l : List Value, cs = l.toArray := ⟨cs.toList, by simp⟩
  have hc : (Value.agg l.toArray).cells.toList = l := by simp [Value.cells]
  rw [hc] at hl hf
  match xs, hlen, l, hsz with
  | [y0, y1, y2, y3], _, [v0, v1, v2, v3], _ =>
    have g0 : DataW.trod enc Tryd.prog W 0 (fun _ => true) true n 5 (List.take (Tryd.prog.cellsOf 5) (List.drop 0 [v0, v1, v2, v3])) = some y0 := hf 0 _ rfl
    rw [cU8'] at g0
    have g1 : DataW.trod enc Tryd.prog W 0 (fun _ => true) true n 22 (List.take (Tryd.prog.cellsOf 22) (List.drop 1 [v0, v1, v2, v3])) = some y1 := hf 1 _ rfl
    rw [cellsU32] at g1
    have g2 : DataW.trod enc Tryd.prog W 0 (fun _ => true) true n 23 (List.take (Tryd.prog.cellsOf 23) (List.drop 2 [v0, v1, v2, v3])) = some y2 := hf 2 _ rfl
    rw [cU64'] at g2
    have g3 : DataW.trod enc Tryd.prog W 0 (fun _ => true) true n 9 (List.take (Tryd.prog.cellsOf 9) (List.drop 3 [v0, v1, v2, v3])) = some y3 := hf 3 _ rfl
    rw [cStr'] at g3
    obtain ⟨n0, e0, _, w0⟩ := DataW.trod_int Tryd.underlying5 g0
    obtain ⟨n1, e1, _, w1⟩ := DataW.trod_int Tryd.underlying22 g1
    obtain ⟨n2, e2, _, w2⟩ := DataW.trod_int Tryd.underlying23 g2
    obtain ⟨s3, e3, _, w3⟩ := DataW.trod_string Tryd.underlying9 g3
    simp only [List.drop_zero, List.drop_succ_cons, List.take_succ_cons, List.take_zero, List.cons.injEq, and_true] at e0 e1 e2 e3
    subst e0 e1 e2 e3
    have b0 := bounds_u8 w0
    have b1 := bounds_u32 w1
    have b2 := bounds_u64 w2
    obtain ⟨k0, rfl⟩ := Int.eq_ofNat_of_zero_le b0.1
    obtain ⟨k1, rfl⟩ := Int.eq_ofNat_of_zero_le b1.1
    obtain ⟨k2, rfl⟩ := Int.eq_ofNat_of_zero_le b2.1
    exact ⟨⟨k0, k1, k2, s3⟩, rfl, ⟨by show k0 < _; omega, by show k1 < _; omega, by show k2 < _; omega⟩⟩
end
end Go.Proofs.YtkmcjjlkammlaaaDoor
