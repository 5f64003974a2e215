/- How much came in, by the bound of the second form. -/
import Derived.Test.YtpjepndeppckdaaDoorCut
namespace Go.Proofs.YtpjepndeppckdaaDoor

theorem bulk_items {H : Type} (l : List It) : Rows.uptoBulkAll (l.map (It.data (H := H))) = wt l := by
  induction l with
  | nil => simp [Rows.uptoBulkAll, wt]
  | cons x l ih =>
    simp only [List.map_cons, Rows.uptoBulkAll, wt, ih]
    have : Rows.uptoBulk (It.data (H := H) x) = x.s.size + 6 := by
      simp only [It.data, Rows.uptoBulk, Rows.uptoBulkAll]
      have := size_toList x.s
      omega
    omega
theorem wt_of {H : Type} {d : DataW H} {l : List It} {rest : List (DataW H)} (hd : d = .nil ∧ l = [] ∨ ∃ sp, d = .slice (l.map It.data) sp) (hk : Rows.uptoSmall H (d :: rest) = true) : wt l ≤ 1048576 := by
  have h : Rows.uptoBulkAll (d :: rest) ≤ 1048576 := of_decide_eq_true hk
  rcases hd with ⟨_, rfl⟩ | ⟨sp, rfl⟩
  · exact Nat.zero_le _
  · simp only [Rows.uptoBulkAll, Rows.uptoBulk, bulk_items] at h
    omega
end Go.Proofs.YtpjepndeppckdaaDoor
