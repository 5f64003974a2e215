/- States: what a put makes. -/
import Derived.Test.YtbahfpcfjhifbaaYn
namespace Go.Proofs.Ytbahfpcfjhifbaa
open Go.RowKit
theorem btw_cut (l : List Sb) (x : Sb) : ∃ p, p ≤ l.length ∧ btw l x = l.take p ++ x :: l.drop p := by
  induction l with
  | nil => exact ⟨0, Nat.le_refl _, rfl⟩
  | cons y l ih =>
    rw [btw]
    split
    · obtain ⟨p, hp, h⟩ := ih
      exact ⟨p + 1, by simpa using hp, by rw [h]; rfl⟩
    · exact ⟨0, Nat.zero_le _, rfl⟩
/-- what is told of a put -/
structure PutOf (s T : St) (ctx : List (Nat × Nat)) (x : Sb) : Prop where
  ok : SOk T
  up : sbel s T
  ns : ¬ cov s.seen x.dot
  nc : ¬ cov ctx x.dot
  ct : cov T.seen x.dot
  bel : V.Bel ctx T.seen
  sibs : T.sibs = btw (uns ctx s.sibs) x
theorem put_of {s : St} {ctx : List (Nat × Nat)} {x : Nat} {val : ByteArray} {gone : Bool} (hs : SOk s) (hc : V.Ok ctx) (hm : mayB gone val = true) (ht : topc s.seen ctx x ≠ 1099511627776)
    (h1 : (putS s ctx (putX s ctx x val gone)).seen.length ≤ 64) (h2 : (putS s ctx (putX s ctx x val gone)).sibs.length ≤ 64) : PutOf s (putS s ctx (putX s ctx x val gone)) ctx (putX s ctx x val gone) := by
  have hX : (putX s ctx x val gone).dot = (x, topc s.seen ctx x + 1) := rfl
  have htop : topc s.seen ctx x = max (V.cnt s.seen x) (V.cnt ctx x) := rfl
  have hl1 := V.cnt_le hs.vec.pos x
  have hl2 := V.cnt_le hc.pos x
  have hone : V.Ok [(putX s ctx x val gone).dot] := oneOk (by rw [hX]; exact Nat.le_add_left 1 _) (by rw [hX]; show topc s.seen ctx x + 1 ≤ _; omega)
  have hns : ¬ cov s.seen (putX s ctx x val gone).dot := by
    rw [hX]; rintro ⟨_, h⟩
    have h : topc s.seen ctx x + 1 ≤ V.cnt s.seen x := h
    omega
  have hnc : ¬ cov ctx (putX s ctx x val gone).dot := by
    rw [hX]; rintro ⟨_, h⟩
    have h : topc s.seen ctx x + 1 ≤ V.cnt ctx x := h
    omega
  have hmay : (putX s ctx x val gone).may := by
    unfold Sb.may
    show if gone = true then val.size = 0 else val.size ≤ 40
    unfold mayB at hm
    cases gone <;> simp_all
  have hcv : ∀ d, cov (putS s ctx (putX s ctx x val gone)).seen d ↔ (cov s.seen d ∨ cov ctx d) ∨ cov [(putX s ctx x val gone).dot] d := fun d => by
    show cov (V.mrg (V.mrg s.seen ctx) [(putX s ctx x val gone).dot]) d ↔ _
    rw [cov_mrg (V.mrg_vec hs.vec hc.toVec) hone.toVec, cov_mrg hs.vec hc.toVec]
  have hself : cov [(putX s ctx x val gone).dot] (putX s ctx x val gone).dot := by
    rw [hX]
    refine ⟨Nat.le_add_left 1 _, ?_⟩
    show topc s.seen ctx x + 1 ≤ V.cnt [(x, topc s.seen ctx x + 1)] x
    simp [V.cnt]
  have hmem : ∀ z, z ∈ (putS s ctx (putX s ctx x val gone)).sibs ↔ z = putX s ctx x val gone ∨ z ∈ uns ctx s.sibs := fun z => mem_btw
  have hrise : Rise (putS s ctx (putX s ctx x val gone)).sibs := rise_btw (rise_uns hs.up) fun y hy e => hns (by rw [← e]; exact hs.cvd y (mem_uns.1 hy).1)
  have hT : SOk (putS s ctx (putX s ctx x val gone)) := ⟨⟨V.mrg_vec (V.mrg_vec hs.vec hc.toVec) hone.toVec, hrise, fun z hz => by
      rcases (hmem z).1 hz with rfl | h
      · exact (hcv _).2 (.inr hself)
      · exact (hcv _).2 (.inl (.inl (hs.cvd z (mem_uns.1 h).1))), fun z hz => by
      rcases (hmem z).1 hz with rfl | h
      · exact hmay
      · exact hs.may z (mem_uns.1 h).1⟩, h1, h2⟩
  refine ⟨hT, fun d => ?_, hns, hnc, (hcv _).2 (.inr hself), fun a => ?_, rfl⟩
  · rcases says_cases s d with ⟨y, hy, rfl⟩ | hn
    · rw [says_mem hs.up hy]
      by_cases hcc : cov ctx y.dot
      · rw [says_not (s := putS s ctx (putX s ctx x val gone)) fun z hz e => by
          rcases (hmem z).1 hz with rfl | h
          · exact hnc (by rw [e]; exact hcc)
          · exact (mem_uns.1 h).2 (by rw [e]; exact hcc), if_pos ((hcv _).2 (.inl (.inr hcc)))]
        trivial
      · rw [says_mem (s := putS s ctx (putX s ctx x val gone)) hrise ((hmem y).2 (.inr (mem_uns.2 ⟨hy, hcc⟩)))]
        exact Say.le_refl _
    · rw [says_not hn]
      by_cases hcs : cov s.seen d
      · rw [if_pos hcs, says_not (s := putS s ctx (putX s ctx x val gone)) fun z hz e => by
          rcases (hmem z).1 hz with rfl | h
          · exact hns (by rw [e]; exact hcs)
          · exact hn z (mem_uns.1 h).1 e, if_pos ((hcv _).2 (.inl (.inl hcs)))]
        trivial
      · rw [if_neg hcs]; trivial
  · show V.cnt ctx a ≤ V.cnt (V.mrg (V.mrg s.seen ctx) [(putX s ctx x val gone).dot]) a
    rw [V.cnt_mrg (V.mrg_vec hs.vec hc.toVec) hone.toVec, V.cnt_mrg hs.vec hc.toVec]
    omega
open Classical in
/-- a put: refused, or made -/
theorem put_cases (s : St) (ctx : List (Nat × Nat)) (x : Nat) (val : ByteArray) (gone : Bool) : (∃ r, r ≠ 0 ∧ putV s ctx x val gone = (St.none, (0, 0), r)) ∨
    (SOk s ∧ V.Ok ctx ∧ ∃ X : Sb, X.a = x ∧ X.gone = gone ∧ X.val = val ∧ X.c ≤ 1099511627776 ∧ PutOf s (putS s ctx X) ctx X ∧ putV s ctx x val gone = (putS s ctx X, X.dot, 0)) := by
  unfold putV
  by_cases h0 : wrongE s ctx gone val ≠ 0
  · rw [if_pos h0]; exact .inl ⟨_, h0, rfl⟩
  · rw [if_neg h0]
    obtain ⟨hs, hc, hm⟩ := wrong_zero.1 (Decidable.not_not.1 h0)
    by_cases ht : topc s.seen ctx x = 1099511627776
    · rw [if_pos ht]; exact .inl ⟨101, by decide, rfl⟩
    · rw [if_neg ht]
      by_cases h1 : (putS s ctx (putX s ctx x val gone)).seen.length ≤ 64 ∧ (putS s ctx (putX s ctx x val gone)).sibs.length ≤ 64
      · rw [if_pos h1]
        refine .inr ⟨hs, hc, putX s ctx x val gone, rfl, rfl, rfl, ?_, put_of hs hc hm ht h1.1 h1.2, rfl⟩
        have hl1 := V.cnt_le hs.vec.pos x
        have hl2 := V.cnt_le hc.pos x
        have htop : topc s.seen ctx x = max (V.cnt s.seen x) (V.cnt ctx x) := rfl
        show topc s.seen ctx x + 1 ≤ 1099511627776
        omega
      · rw [if_neg h1]; exact .inl ⟨82, by decide, rfl⟩
end Go.Proofs.Ytbahfpcfjhifbaa
