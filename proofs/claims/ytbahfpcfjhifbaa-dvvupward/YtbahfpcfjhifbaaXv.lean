/- Vectors: there and back. -/
import Derived.Test.YtbahfpcfjhifbaaXo
import Derived.Test.YtbahfpcfjhifbaaXu
namespace Go.Proofs.Ytbahfpcfjhifbaa
open Go.RowKit

theorem drop_app {l a t : List UInt8} {p : Nat} (h : l.drop p = a ++ t) : l.drop (p + a.length) = t := by
  rw [← List.drop_drop, h, List.drop_append_of_le_length (Nat.le_refl _)]; simp
def Small (l : List (Nat × Nat)) : Prop := ∀ d ∈ l, d.1 ≤ 4294967295 ∧ d.2 ≤ 1099511627776
theorem tkD_fwd (s : ByteArray) : ∀ (l : List (Nat × Nat)) (p : Nat) (t : List UInt8), Small l → s.data.toList.drop p = dotsB l ++ t → tkD s l.length p 0 = (l, p + (dotsB l).length, 0)
  | [], p, t, _, _ => by simp [tkD, dotsB]
  | d :: l, p, t, hs, h => by
    have hd := hs d (List.mem_cons_self ..)
    have e : dotsB (d :: l) = W.uintB 9 d.1 ++ (W.uintB 9 d.2 ++ dotsB l) := by simp [dotsB, dotB]
    rw [e, List.append_assoc] at h
    have h1 := W.uint_fwd (s := s) (p := p) (most := 4294967295) h (by omega) hd.1
    have h' := drop_app h
    rw [List.append_assoc] at h'
    have h2 := W.uint_fwd (s := s) (p := p + (W.uintB 9 d.1).length) (most := 1099511627776) h' (by omega) hd.2
    have h3 := tkD_fwd s l _ t (fun x hx => hs x (List.mem_cons_of_mem _ hx)) (drop_app h')
    rw [List.length_cons, tkD_succ, h1]
    simp only [h2, h3]
    rw [e]
    simp only [List.length_append, Nat.add_assoc]
theorem small_ok {l : List (Nat × Nat)} (h : V.Ok l) (hf : Fits l) : Small l := fun d hd => ⟨by have := (hf d hd).1; omega, (h.pos d hd).2⟩
theorem tkV_fwd (s : ByteArray) (l : List (Nat × Nat)) (p : Nat) (t : List UInt8) (hs : Small l) (hl : l.length ≤ 64) (h : s.data.toList.drop p = vecB l ++ t) : tkV s p 0 = (l, p + (vecB l).length, 0) := by
  unfold vecB at h
  rw [List.append_assoc] at h
  have h1 := W.uint_fwd (s := s) (p := p) (most := 64) h (by omega) hl
  have h3 := tkD_fwd s l _ t hs (drop_app h)
  unfold tkV
  rw [h1]
  simp only [h3]
  unfold vecB
  simp only [List.length_append, Nat.add_assoc]
theorem dec_enc {l : List (Nat × Nat)} (h : V.Ok l) (hf : Fits l) : decV ⟨(vecB l).toArray⟩ = (l, 0) := by
  have hs : (⟨(vecB l).toArray⟩ : ByteArray).size = (vecB l).length := List.size_toArray
  have ht := tkV_fwd ⟨(vecB l).toArray⟩ l 0 [] (small_ok h hf) h.len (by simp)
  have he : takeE ⟨(vecB l).toArray⟩ 0 0 = 0 := by unfold takeE; rw [ht]; simp [V.okB_true.2 h]
  have hl : takeL ⟨(vecB l).toArray⟩ 0 0 = l := by unfold takeL; rw [he, ht]; simp
  unfold decV
  rw [he, hl, ht, hs]
  simp [W.endE]
theorem uintS_err (s : ByteArray) (p : Nat) {e : Int} (most : Nat) (h : e ≠ 0) : W.uintS s p e most = (0, p, e) := by unfold W.uintS; rw [if_pos h]
/-- where none is found wrong the bytes are those of the dots -/
theorem tkD_inv (s : ByteArray) : ∀ (n p : Nat), p ≤ s.size → (tkD s n p 0).2.2 = 0 → p ≤ (tkD s n p 0).2.1 ∧ (tkD s n p 0).2.1 ≤ s.size ∧ (tkD s n p 0).1.length = n ∧ dotsB (tkD s n p 0).1 = (s.data.toList.drop p).take ((tkD s n p 0).2.1 - p)
  | 0, p, hp, _ => by simp [tkD, dotsB, hp]
  | n + 1, p, hp, h => by
    rw [tkD_succ] at h ⊢
    by_cases h1 : (W.uintS s p 0 4294967295).2.2 = 0
    · have u1 := W.uint_ok s p 4294967295 h1
      rw [h1] at h ⊢
      generalize W.uintS s p 0 4294967295 = x at *
      obtain ⟨xa, px, ex⟩ := x
      simp only at h h1 u1 ⊢
      have hpx : px ≤ s.size := by rcases u1.2.1 with h | h; exact h; omega
      by_cases h2 : (W.uintS s px 0 1099511627776).2.2 = 0
      · have u2 := W.uint_ok s px 1099511627776 h2
        rw [h2] at h ⊢
        generalize W.uintS s px 0 1099511627776 = y at *
        obtain ⟨yc, py, ey⟩ := y
        simp only at h h2 u2 ⊢
        have hpy : py ≤ s.size := by rcases u2.2.1 with h | h; exact h; omega
        have ih := tkD_inv s n py hpy h
        generalize tkD s n py 0 = z at *
        obtain ⟨l, pz, ez⟩ := z
        simp only at ih ⊢
        refine ⟨by omega, ih.2.1, by rw [List.length_cons, ih.2.2.1], ?_⟩
        rw [show dotsB ((xa, yc) :: l) = W.uintB 9 xa ++ (W.uintB 9 yc ++ dotsB l) by simp [dotsB, dotB], u1.2.2, u2.2.2, ih.2.2.2]
        have e1 : s.data.toList.drop px = (s.data.toList.drop p).drop (px - p) := by rw [List.drop_drop]; congr 1; omega
        have e2 : s.data.toList.drop py = (s.data.toList.drop p).drop (py - p) := by rw [List.drop_drop]; congr 1; omega
        rw [e1, e2]
        generalize s.data.toList.drop p = L
        have f1 : (L.drop (px - p)).take (py - px) ++ (L.drop (py - p)).take (pz - py) = (L.drop (px - p)).take (pz - px) := by
          rw [show py - p = (px - p) + (py - px) by omega, ← List.drop_drop, show pz - px = (py - px) + (pz - py) by omega, List.take_add]
        rw [f1, show pz - p = (px - p) + (pz - px) by omega, List.take_add]
      · exfalso
        generalize W.uintS s px 0 1099511627776 = y at *
        obtain ⟨yc, py, ey⟩ := y
        simp only at h h2
        rw [tkD_err _ _ _ h2] at h
        exact h2 h
    · exfalso
      generalize W.uintS s p 0 4294967295 = x at *
      obtain ⟨xa, px, ex⟩ := x
      simp only at h h1
      rw [uintS_err s px _ h1] at h
      simp only at h
      rw [tkD_err _ _ _ h1] at h
      exact h1 h
theorem tkV_inv (s : ByteArray) (h : (tkV s 0 0).2.2 = 0) : (tkV s 0 0).2.1 ≤ s.size ∧ vecB (tkV s 0 0).1 = s.data.toList.take (tkV s 0 0).2.1 := by
  unfold tkV at h ⊢
  by_cases h1 : (W.uintS s 0 0 64).2.2 = 0
  · have u1 := W.uint_ok s 0 64 h1
    rw [h1] at h ⊢
    generalize W.uintS s 0 0 64 = x at *
    obtain ⟨n, px, ex⟩ := x
    simp only at h h1 u1 ⊢
    have hpx : px ≤ s.size := by rcases u1.2.1 with h | h; exact h; omega
    have ih := tkD_inv s n px hpx h
    generalize tkD s n px 0 = z at *
    obtain ⟨l, pz, ez⟩ := z
    simp only at ih ⊢
    refine ⟨ih.2.1, ?_⟩
    unfold vecB
    rw [ih.2.2.1, u1.2.2, ih.2.2.2]
    simp only [List.drop_zero, Nat.sub_zero]
    rw [show pz = px + (pz - px) by omega, List.take_add]
    congr 2
    omega
  · exfalso
    generalize W.uintS s 0 0 64 = x at *
    obtain ⟨n, px, ex⟩ := x
    simp only at h h1
    rw [tkD_err _ _ _ h1] at h
    exact h1 h
theorem dec_cases (s : ByteArray) : (∃ l, decV s = (l, 0) ∧ V.Ok l ∧ Fits l ∧ (⟨(vecB l).toArray⟩ : ByteArray) = s) ∨ decV s = ([], 100) := by
  unfold decV
  by_cases h : W.endE s.size (tkV s 0 0).2.1 (takeE s 0 0) = 0
  · rw [if_pos h]
    left
    unfold W.endE at h
    split at h
    · rename_i he
      split at h
      · cases h
      · rename_i hp
        have hok : V.okB (tkV s 0 0).1 = true := by
          cases hk : V.okB (tkV s 0 0).1
          · exfalso
            unfold takeE at he
            rw [hk] at he
            simp only [Bool.false_eq_true, if_false] at he
            unfold W.failE at he
            split at he
            · cases he
            · rename_i h0; exact h0 he
          · rfl
        have h0 : (tkV s 0 0).2.2 = 0 := by unfold takeE at he; rw [hok] at he; simpa using he
        have hi := tkV_inv s h0
        refine ⟨takeL s 0 0, rfl, ?_, ?_, ?_⟩
        · unfold takeL; rw [if_pos he]; exact V.okB_true.1 hok
        · unfold takeL; rw [if_pos he]; exact (tkV_fits s 0 0).1
        · have : takeL s 0 0 = (tkV s 0 0).1 := by unfold takeL; rw [if_pos he]
          rw [this, hi.2, show (tkV s 0 0).2.1 = s.data.toList.length by rw [Array.length_toList]; show _ = s.size; omega, List.take_length]
    · rename_i he; exact absurd h he
  · rw [if_neg h]; exact .inr rfl
end Go.Proofs.Ytbahfpcfjhifbaa
