/- What came in: one entry; how many entries. -/
import Derived.Test.YtddfmdfpoakofaaSgl
namespace Go.Proofs.Ytddfmdfpoakofaa.S
open Go.ChangeShapes Go.WideShapes Go.ChangeAt Go.RowKit Go.Deep
section
variable {H : Type} {enc : TypeId × Value → H} {W : World}
set_option maxRecDepth 100000 in
theorem open_enV {base : Nat} {v : Value} {d : DataW H} {ps : List MemPlace} (hval : Value.okWide Try.prog W .any base 43 v) (h : DataW.Trod enc Try.prog W 0 (fun _ => true) true 43 v d ps) :
    ∃ k s : ByteArray, v = .agg #[.string k, .string s] := by
  obtain ⟨cs, rfl, hsz⟩ := okWide_struct Try.underlying43 hval
  obtain ⟨fuel, hf⟩ := h
  obtain ⟨l, rfl⟩ : ∃ l : List Value, cs = l.toArray := ⟨cs.toList, by simp⟩
  have hc : (Value.agg l.toArray).cells.toList = l := by simp [Value.cells]
  rw [hc] at hf
  obtain ⟨e, rfl, _, _⟩ := open_en hf
  exact ⟨e.1, e.2, rfl⟩
set_option maxRecDepth 100000 in
theorem ens_few {a : Option Addr} {len cap : Nat} {d : DataW H} {ps : List MemPlace} (h : DataW.Trod enc Try.prog W 0 (fun _ => true) true 27 (.slice a len cap) d ps) (hz : (DataW.weights Try.prog 27 d).all (· ≤ reachBytes) = true) : len + 1 ≤ 4398046511000 := by
  obtain ⟨fuel, hf⟩ := h
  rcases open_slice Try.underlying27 hf with ⟨hcs, hx⟩ | ⟨x, l', c', m, n, D, Pl, hcs, _, hl, hm, hmm, hx, hel⟩
  · simp [Value.cells] at hcs
    obtain ⟨rfl, rfl, rfl⟩ := hcs
    decide
  · simp [Value.cells] at hcs
    obtain ⟨rfl, rfl, rfl⟩ := hcs
    simp only [Prod.mk.injEq] at hx
    obtain ⟨rfl, -⟩ := hx
    have hall := List.all_eq_true.1 hz
    have hlen : len * 32 ≤ reachBytes := by
      have h1 := hall _ (by simp only [DataW.weights, Try.underlying27]; exact List.mem_cons_self ..)
      simp only [decide_eq_true_eq, List.length_map, List.length_range, bEn] at h1
      have : (len + ((List.range (m - len)).map fun i => D (len + i)).length) * 32 ≤ reachBytes := by simpa using h1
      omega
    have : reachBytes ≤ 140737488351232 := by decide
    omega
end
end Go.Proofs.Ytddfmdfpoakofaa.S
