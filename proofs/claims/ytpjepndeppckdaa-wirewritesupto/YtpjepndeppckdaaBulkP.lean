/- How much came in, by the bound of the second form; a list of bools that came in. -/
import Derived.Test.YtpjepndeppckdaaWritesL
import Derived.Test.YtpjepndeppckdaaHall
import Derived.Deep.Grids
namespace Go.Proofs.Ytpjepndeppckdaa
open Go.ChangeShapes Go.WideShapes Go.ChangeAt Go.RowKit Go.Lib Go.Deep

theorem bulk_items {H : Type} (l : List It) : Rows.uptoBulkAll (l.map (It.data (H := H))) = wt l := by
  induction l with
  | nil => simp [Rows.uptoBulkAll, wt]
  | cons x l ih =>
    simp only [List.map_cons, Rows.uptoBulkAll, wt, ih]
    have : Rows.uptoBulk (It.data (H := H) x) = x.s.size + 6 := by
      simp only [It.data, Rows.uptoBulk, Rows.uptoBulkAll]
      have := size_toList x.s
      omega
    omega
theorem wt_of {H : Type} {d : DataW H} {l : List It} {rest : List (DataW H)} (hd : d = .nil ∧ l = [] ∨ ∃ sp, d = .slice (l.map It.data) sp) (hk : Rows.uptoSmall H (d :: rest) = true) : wt l ≤ 1048576 := by
  have h : Rows.uptoBulkAll (d :: rest) ≤ 1048576 := of_decide_eq_true hk
  rcases hd with ⟨_, rfl⟩ | ⟨sp, rfl⟩
  · exact Nat.zero_le _
  · simp only [Rows.uptoBulkAll, Rows.uptoBulk, bulk_items] at h
    omega
theorem cBool : Try.prog.cellsOf 4 = 1 := by kernel_rfl
section
variable {H : Type} {enc : TypeId × Value → H} {W : World}
theorem open_asks {base : Nat} {v : Value} {d : DataW H} {ps : List MemPlace} (hval : Value.okWide Try.prog W .any base 45 v) (h : DataW.Trod enc Try.prog W 0 (fun _ => true) true 45 v d ps) :
    ∃ a len cap, v = .slice a len cap ∧ Bools W a len := by
  obtain ⟨a, len, cap, rfl⟩ := okWide_slice Try.underlying45 hval
  obtain ⟨fuel, hf⟩ := h
  rcases open_bools Try.underlying45 Try.underlying4 cBool hf with ⟨hcs, hx⟩ | ⟨x, l', c', B, hcs, _, hl, hm, hx, hel⟩
  · simp [Value.cells] at hcs
    obtain ⟨rfl, rfl, rfl⟩ := hcs
    exact ⟨none, 0, 0, rfl, by decide, .inl rfl⟩
  · simp [Value.cells] at hcs
    obtain ⟨rfl, rfl, rfl⟩ := hcs
    refine ⟨some x, len, cap, rfl, by unfold maxLen at hm; omega, ?_⟩
    by_cases h0 : len = 0
    · exact .inl h0
    · right
      obtain ⟨b, off, spot⟩ := x
      have hs : spot = none := by
        have := World.cell?_spot (hel 0 (by omega))
        simpa [Addr.add] using this
      subst hs
      have hb : b < W.heap.size := by
        have h0 := hel 0 (by omega)
        by_cases hb : b < W.heap.size
        · exact hb
        · exfalso
          have : W.heap[b]? = none := Array.getElem?_eq_none (by omega)
          simp [World.cell?, Addr.add, this] at h0
      refine ⟨b, off, B, rfl, hb, fun j hj => ?_⟩
      have := hel j (by omega)
      rwa [add_at] at this
end
end Go.Proofs.Ytpjepndeppckdaa
