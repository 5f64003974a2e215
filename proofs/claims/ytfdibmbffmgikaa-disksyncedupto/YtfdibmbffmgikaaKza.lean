/- DiskSynced: what is read, and what a loss of power leaves, word by word. Of no program. -/
import Derived.Test.YtfdibmbffmgikaaKy
namespace Go.Proofs.Ytfdibmbffmgikaa
open Go.RowKit Go.Lib

def Dk.lastK (d : Dk) : Nat → List (List UInt8)
  | 0 => d.lies
  | k + 1 => (d.lastK k).set (d.pend.getD k (0, [])).1 (d.pend.getD k (0, [])).2
theorem Dk.lastK_length (d : Dk) : ∀ k, (d.lastK k).length = d.lies.length
  | 0 => rfl
  | k + 1 => by simp only [Dk.lastK, List.length_set]; exact d.lastK_length k
theorem Dk.lastK_get (d : Dk) (i : Nat) (hi : i < d.lies.length) : ∀ k, k ≤ d.pend.length → (d.lastK k).getD i [] = newest (d.lies.getD i []) (d.pend.take k) i
  | 0, _ => rfl
  | k + 1, hk => by
    have ih := d.lastK_get i hi k (by omega)
    have hkl : k < d.pend.length := by omega
    have e : d.pend.take (k + 1) = d.pend.take k ++ [d.pend.getD k (0, [])] := by
      rw [List.take_add_one, List.getD_eq_getElem?_getD, List.getElem?_eq_getElem hkl]
      rfl
    rw [e, newest_append, ← ih]
    simp only [Dk.lastK, newest, List.foldl_cons, List.foldl_nil]
    generalize d.pend.getD k (0, []) = x at *
    have hl : i < (d.lastK k).length := by rw [d.lastK_length]; exact hi
    by_cases h : x.1 = i
    · rw [if_pos h, h]
      simp [List.getD, hl]
    · rw [if_neg h]
      simp only [List.getD, List.getElem?_set, if_neg h]
theorem Dk.lastK_page (d : Dk) (i : Nat) (hi : i < d.lies.length) : (d.lastK d.pend.length).getD i [] = d.page i := by
  rw [d.lastK_get i hi _ (Nat.le_refl _), List.take_length]
  rfl
theorem word_lo (b o : List UInt8) (s a : Nat) (h : a + 8 ≤ s) (hb : s ≤ b.length) : wordAt (b.take s ++ o) a = wordAt b a := by
  unfold wordAt
  rw [List.drop_append_of_le_length (by rw [List.length_take]; omega), List.take_append_of_le_length (by rw [List.length_drop, List.length_take]; omega), List.drop_take, List.take_take, Nat.min_eq_left (by omega)]
theorem word_hi (b o : List UInt8) (s a : Nat) (h : s ≤ a) (hb : s ≤ b.length) : wordAt (b.take s ++ o.drop s) a = wordAt o a := by
  unfold wordAt
  rw [List.drop_append, List.drop_of_length_le (by rw [List.length_take]; omega), List.nil_append, List.length_take, Nat.min_eq_left hb, List.drop_drop, show s + (a - s) = a from by omega]
theorem landed_words (d : Dk) (hok : d.Ok) (s : Nat → Nat) (hs : ∀ i, s i ≤ 1024 ∧ s i % 8 = 0) (i : Nat) (hi : i < d.lies.length) (j : Nat) : ∀ k, k ≤ d.pend.length →
    wordAt ((d.landed s k).getD i []) (8 * j) = wordAt (d.lies.getD i []) (8 * j) ∨ ∃ q, ∃ hq : q < d.pend.length, d.pend[q].1 = i ∧ wordAt d.pend[q].2 (8 * j) = wordAt ((d.landed s k).getD i []) (8 * j)
  | 0, _ => .inl rfl
  | k + 1, hk => by
    have ih := landed_words d hok s hs i hi j k (by omega)
    have hkl : k < d.pend.length := by omega
    have hl : i < (d.landed s k).length := by rw [d.landed_length]; exact hi
    have hg : d.pend.getD k (0, []) = d.pend[k] := by rw [List.getD_eq_getElem?_getD, List.getElem?_eq_getElem hkl]; rfl
    simp only [Dk.landed, hg]
    by_cases h : d.pend[k].1 = i
    · have hb := (hok.pg d.pend[k] (List.getElem_mem hkl)).2
      have e : ((d.landed s k).set d.pend[k].1 (d.pend[k].2.take (s k) ++ ((d.landed s k).getD d.pend[k].1 []).drop (s k))).getD i [] = d.pend[k].2.take (s k) ++ ((d.landed s k).getD i []).drop (s k) := by
        rw [h]
        simp [List.getD, hl]
      rw [e]
      obtain ⟨h1, h2⟩ := hs k
      by_cases hj : 8 * j + 8 ≤ s k
      · rw [word_lo _ _ _ _ hj (by omega)]
        exact .inr ⟨k, hkl, h, rfl⟩
      · rw [word_hi _ _ _ _ (by omega) (by omega)]
        exact ih
    · have e : ((d.landed s k).set d.pend[k].1 (d.pend[k].2.take (s k) ++ ((d.landed s k).getD d.pend[k].1 []).drop (s k))).getD i [] = (d.landed s k).getD i [] := by
        simp only [List.getD, List.getElem?_set, if_neg h]
      rw [e]
      exact ih
theorem share_mod (ks : List Bool) (torn cut : Int) (i : Nat) : share ks torn cut i ≤ 1024 ∧ share ks torn cut i % 8 = 0 := by
  refine ⟨share_le _ _ _ _, ?_⟩
  unfold share
  split
  · omega
  · split <;> rfl
theorem crash_words (d : Dk) (hok : d.Ok) (ks : List Bool) (torn cut : Int) (i : Nat) (hi : i < d.lies.length) : WordsOk ((d.crash (share ks torn cut)).lies.getD i []) (d.lies.getD i []) d.pend i := fun j _ =>
  landed_words d hok (share ks torn cut) (share_mod ks torn cut) i hi j d.pend.length (Nat.le_refl _)
theorem Dk.Ok.crash {d : Dk} (h : d.Ok) (s : Nat → Nat) : (d.crash s).Ok :=
  ⟨by show 0 < (d.landed s _).length; rw [d.landed_length]; exact h.pos, by show (d.landed s _).length ≤ _; rw [d.landed_length]; exact h.max, h.landed_len s _ (Nat.le_refl _), (fun _ hq => by cases hq), by show (-1 : Int) ≤ -1; decide, by show (-1 : Int) ≤ _; decide⟩
end Go.Proofs.Ytfdibmbffmgikaa
