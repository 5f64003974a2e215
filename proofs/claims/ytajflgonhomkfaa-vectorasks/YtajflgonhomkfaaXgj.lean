/- Vectors: a dot as an argument. -/
import Derived.Test.YtajflgonhomkfaaXs
namespace Go.Proofs.Ytajflgonhomkfaa
open Go.RowKit
variable {H : Type} {enc : TypeId × Value → H} {W : World}

theorem open_dotV {base : Nat} {v : Value} {d : DataW H} {ps : List MemPlace} (hval : Value.okWide Try.prog W .any base 29 v) (h : DataW.Trod enc Try.prog W 0 (fun _ => true) true 29 v d ps) :
    ∃ x : Nat × Nat, v = .agg #[.int .u32 (x.1 : Int), .int .u64 (x.2 : Int)] := by
  obtain ⟨cs, rfl, hsz⟩ : ∃ cs, v = .agg cs ∧ cs.size = Try.prog.cellsOf 29 := by
    unfold Value.okWide at hval
    rw [Try.underlying29] at hval
    obtain ⟨cs, h1, h2, _⟩ := hval
    exact ⟨cs, h1, h2⟩
  obtain ⟨fuel, hf⟩ := h
  obtain ⟨l, rfl⟩ : ∃ l : List Value, cs = l.toArray := ⟨cs.toList, by simp⟩
  have hc : (Value.agg l.toArray).cells.toList = l := by simp [Value.cells]
  rw [hc] at hf
  obtain ⟨x, rfl, _⟩ := open_dot hf
  exact ⟨x, rfl⟩
end Go.Proofs.Ytajflgonhomkfaa
