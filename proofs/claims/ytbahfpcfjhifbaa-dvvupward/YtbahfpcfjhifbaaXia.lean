/- Vectors: the max by the document: all dots of one, those of the other whose actor is new, sorted by insertion. Of no program. -/
import Derived.Test.YtbahfpcfjhifbaaXl
namespace Go.Proofs.Ytbahfpcfjhifbaa.V

/-- the dots whose actor the other lacks -/
def fresh (a b : List (Nat × Nat)) : List (Nat × Nat) := b.filter fun d => cnt a d.1 == 0
theorem fresh_take (a : List (Nat × Nat)) {b : List (Nat × Nat)} {i : Nat} (h : i < b.length) : fresh a (b.take (i + 1)) = fresh a (b.take i) ++ (if cnt a b[i].1 = 0 then [b[i]] else []) := by
  unfold fresh
  rw [List.take_succ_eq_append_getElem h, List.filter_append]
  congr 1
  by_cases hc : cnt a b[i].1 = 0
  · simp [hc]
  · simp [hc]
theorem fresh_len (a b : List (Nat × Nat)) : (fresh a b).length ≤ b.length := List.length_filter_le _ _
/-- no actor twice -/
def Once (l : List (Nat × Nat)) : Prop := l.Pairwise fun x y => x.1 ≠ y.1
theorem once_all {a b : List (Nat × Nat)} (ha : Vec a) (hb : Vec b) : Once (a ++ fresh a b) := by
  refine List.pairwise_append.2 ⟨ha.up.imp (fun h => by omega), (hb.up.sublist List.filter_sublist).imp (fun h => by omega), fun x hx y hy he => ?_⟩
  have h1 := (List.mem_filter.1 hy).2
  have h2 := cnt_mem ha.up hx
  have h3 := (ha.pos x hx).1
  rw [he] at h2
  have h1' : cnt a y.1 = 0 := by simpa using h1
  omega
/-- the first ones sorted, each with its new count -/
structure Srt (mx : Nat → Nat) (A S : List (Nat × Nat)) : Prop where
  up : Up S
  len : S.length = A.length
  val : ∀ d ∈ S, d.2 = mx d.1
  fwd : ∀ d ∈ S, ∃ e ∈ A, e.1 = d.1
  bwd : ∀ e ∈ A, ∃ d ∈ S, d.1 = e.1
theorem Srt.nil (mx : Nat → Nat) : Srt mx [] [] := ⟨List.Pairwise.nil, rfl, fun _ h => (by cases h), fun _ h => (by cases h), fun _ h => (by cases h)⟩
theorem Srt.step {mx : Nat → Nat} {A S : List (Nat × Nat)} {d : Nat × Nat} {k m : Nat} (h : Srt mx A S) (hm : m = mx d.1) (hk : k ≤ S.length) (h1 : ∀ j (hj : j < S.length), j < k → S[j].1 < d.1) (h2 : ∀ j (hj : j < S.length), k ≤ j → d.1 < S[j].1) : Srt mx (A ++ [d]) (put S k (d.1, m)) := by
  subst hm
  refine ⟨?_, by rw [put_len hk, h.len, List.length_append]; rfl, fun x hx => ?_, fun x hx => ?_, fun e he => ?_⟩
  · have g1 : ∀ x ∈ S.take k, x.1 < d.1 := fun x hx => by
      obtain ⟨i, hi, rfl⟩ := List.getElem_of_mem hx
      rw [List.length_take] at hi
      rw [List.getElem_take]
      exact h1 i (by omega) (by omega)
    have g2 : ∀ x ∈ S.drop k, d.1 < x.1 := fun x hx => by
      obtain ⟨i, hi, rfl⟩ := List.getElem_of_mem hx
      rw [List.length_drop] at hi
      rw [List.getElem_drop]
      exact h2 (k + i) (by omega) (by omega)
    unfold put Up
    refine List.pairwise_append.2 ⟨h.up.sublist (List.take_sublist _ _), List.pairwise_cons.2 ⟨g2, h.up.sublist (List.drop_sublist _ _)⟩, fun x hx y hy => ?_⟩
    rcases List.mem_cons.1 hy with rfl | hy
    · exact g1 x hx
    · exact Nat.lt_trans (g1 x hx) (g2 y hy)
  · rcases mem_put.1 hx with rfl | hx
    · rfl
    · exact h.val x hx
  · rcases mem_put.1 hx with rfl | hx
    · exact ⟨d, List.mem_append.2 (.inr (List.mem_cons_self ..)), rfl⟩
    · obtain ⟨e, he, e1⟩ := h.fwd x hx
      exact ⟨e, List.mem_append.2 (.inl he), e1⟩
  · rcases List.mem_append.1 he with he | he
    · obtain ⟨x, hx, e1⟩ := h.bwd e he
      exact ⟨x, mem_put.2 (.inr hx), e1⟩
    · obtain rfl : e = d := by simpa using he
      exact ⟨(e.1, mx e.1), mem_put.2 (.inl rfl), rfl⟩
/-- what is sorted in lacks the next actor -/
theorem Srt.ne {mx : Nat → Nat} {l S : List (Nat × Nat)} {i : Nat} (h : Srt mx (l.take i) S) (ho : Once l) (hi : i < l.length) : ∀ j (hj : j < S.length), S[j].1 ≠ l[i].1 := fun j hj he => by
  obtain ⟨e, h1, h2⟩ := h.fwd _ (List.getElem_mem hj)
  obtain ⟨k, hk, rfl⟩ := List.getElem_of_mem h1
  rw [List.length_take] at hk
  rw [List.getElem_take] at h2
  have := List.pairwise_iff_getElem.1 ho k i (by omega) hi (by omega)
  omega
theorem Srt.done {a b S : List (Nat × Nat)} (ha : Vec a) (hb : Vec b) (h : Srt (fun k => max (cnt a k) (cnt b k)) (a ++ fresh a b) S) : S = mrg a b := by
  have hh : ∀ k, has S k ↔ has a k ∨ has b k := fun k => by
    constructor
    · rintro ⟨d, hd, rfl⟩
      obtain ⟨e, he, e1⟩ := h.fwd d hd
      rcases List.mem_append.1 he with he | he
      · exact .inl ⟨e, he, e1⟩
      · exact .inr ⟨e, (List.mem_filter.1 he).1, e1⟩
    · intro hk
      have h1 : ∃ e ∈ a ++ fresh a b, e.1 = k := by
        by_cases hc : cnt a k = 0
        · rcases hk with hk | ⟨e, he, e1⟩
          · exact absurd hc ((has_iff ha k).1 hk)
          · exact ⟨e, List.mem_append.2 (.inr (List.mem_filter.2 ⟨he, by rw [e1]; simp [hc]⟩)), e1⟩
        · obtain ⟨e, he, e1, _⟩ := cnt_pos hc
          exact ⟨e, List.mem_append.2 (.inl he), e1⟩
      obtain ⟨e, he, e1⟩ := h1
      obtain ⟨d, hd, e2⟩ := h.bwd e he
      exact ⟨d, hd, by omega⟩
  have hv : Vec S := ⟨h.up, fun d hd => by
    have h1 := h.val d hd
    have h2 := (hh d.1).1 ⟨d, hd, rfl⟩
    rw [has_iff ha, has_iff hb] at h2
    have := cnt_le ha.pos d.1
    have := cnt_le hb.pos d.1
    omega⟩
  refine ext hv (mrg_vec ha hb) fun k => ?_
  rw [cnt_mrg ha hb]
  by_cases hk : has S k
  · obtain ⟨d, hd, rfl⟩ := hk
    rw [cnt_mem h.up hd]
    exact h.val d hd
  · have h1 : cnt S k = 0 := Classical.byContradiction fun hc => hk ((has_iff hv k).2 hc)
    have h2 : ¬ has a k := fun hx => hk ((hh k).2 (.inl hx))
    have h3 : ¬ has b k := fun hx => hk ((hh k).2 (.inr hx))
    rw [has_iff ha] at h2
    rw [has_iff hb] at h3
    omega
/-- the next that is sorted in, one place nearer to the front -/
theorem put_swap {S R : List (Nat × Nat)} {q : Nat} {e : Nat × Nat} (h : q < S.length) : ((put S (q + 1) e ++ R).set q e).set (q + 1) S[q] = put S q e ++ R := by
  unfold put
  have h1 : (S.take q).length = q := by rw [List.length_take]; omega
  rw [List.take_succ_eq_append_getElem h, List.drop_eq_getElem_cons h, List.append_assoc, List.append_assoc, List.append_assoc, List.set_append_right _ _ (by omega), h1, Nat.sub_self]
  simp only [List.cons_append, List.nil_append, List.set_cons_zero]
  rw [List.set_append_right _ _ (by omega), h1, show q + 1 - q = 1 by omega]
  simp only [List.set_cons_succ, List.set_cons_zero]
theorem put_at {S R : List (Nat × Nat)} {q : Nat} {e : Nat × Nat} (h : q ≤ S.length) (h' : q < (put S q e ++ R).length) : (put S q e ++ R)[q] = e := by
  rw [List.getElem_append_left (by rw [put_len h]; omega)]
  refine List.getElem_of_eq (l' := S.take q ++ e :: S.drop q) rfl _ |>.trans ?_
  rw [List.getElem_append_right (by rw [List.length_take]; omega)]
  simp [Nat.min_eq_left h]
theorem put_ahead {S R : List (Nat × Nat)} {q : Nat} {e : Nat × Nat} (h : q < S.length) (h' : q < (put S (q + 1) e ++ R).length) : (put S (q + 1) e ++ R)[q] = S[q] := by
  rw [List.getElem_append_left (by rw [put_len (by omega)]; omega)]
  exact put_get S (q + 1) q e (by omega) (by omega)
theorem put_first {S R : List (Nat × Nat)} {x y : Nat × Nat} : (S ++ x :: R).set S.length y = put S S.length y ++ R := by
  unfold put
  rw [List.set_append_right _ _ (Nat.le_refl _), Nat.sub_self, List.set_cons_zero]
  simp
end Go.Proofs.Ytbahfpcfjhifbaa.V
