/- What was told of a tally is taken. -/
import Derived.Test.YtpepgealeanecaaGu
namespace Go.Proofs.Ytpepgealeanecaa
open Go.RowKit Go.Lib
/-- the bytes of the counts from a replica on -/
def talR (ta : List Nat) : Nat → List UInt8
  | 0 => []
  | n + 1 => tal1 ta (4 - n) ++ talR ta n
theorem talU_R (ta : List Nat) : talU ta 5 = talR ta 5 := by simp [talU, talR]
/-- a tally of which the first replicas' counts are taken -/
def pt (ta : List Nat) (i : Nat) : List Nat := ta.take (2 * i) ++ ta0.drop (2 * i)
theorem pt_zero (ta : List Nat) : pt ta 0 = ta0 := rfl
theorem pt_five {ta : List Nat} (hl : ta.length = 10) : pt ta 5 = ta := by
  obtain ⟨a0, a1, a2, a3, a4, a5, a6, a7, a8, a9, rfl⟩ := ten hl
  rfl
theorem pt_step {ta : List Nat} (hl : ta.length = 10) {i : Nat} (hi : i < 5) : setT (pt ta i) (i + 1) (ta.getD (2 * i) 0) (ta.getD (2 * i + 1) 0) = pt ta (i + 1) := by
  obtain ⟨a0, a1, a2, a3, a4, a5, a6, a7, a8, a9, rfl⟩ := ten hl
  have : i = 0 ∨ i = 1 ∨ i = 2 ∨ i = 3 ∨ i = 4 := by omega
  rcases this with rfl | rfl | rfl | rfl | rfl <;> rfl
theorem pt_zeros {ta : List Nat} (hl : ta.length = 10) {i : Nat} (hi : i < 5) (h1 : ta.getD (2 * i) 0 = 0) (h2 : ta.getD (2 * i + 1) 0 = 0) : pt ta i = pt ta (i + 1) := by
  obtain ⟨a0, a1, a2, a3, a4, a5, a6, a7, a8, a9, rfl⟩ := ten hl
  have : i = 0 ∨ i = 1 ∨ i = 2 ∨ i = 3 ∨ i = 4 := by omega
  rcases this with rfl | rfl | rfl | rfl | rfl
  · obtain rfl : a0 = 0 := h1
    obtain rfl : a1 = 0 := h2
    rfl
  · obtain rfl : a2 = 0 := h1
    obtain rfl : a3 = 0 := h2
    rfl
  · obtain rfl : a4 = 0 := h1
    obtain rfl : a5 = 0 := h2
    rfl
  · obtain rfl : a6 = 0 := h1
    obtain rfl : a7 = 0 := h2
    rfl
  · obtain rfl : a8 = 0 := h1
    obtain rfl : a9 = 0 := h2
    rfl
theorem getD_bd {ta : List Nat} (h : ∀ v ∈ ta, v < 65536) (i : Nat) : ta.getD i 0 < 65536 := by
  rcases Nat.lt_or_ge i ta.length with hi | hi
  · rw [List.getD_eq_getElem?_getD, List.getElem?_eq_getElem hi]; exact h _ (List.getElem_mem hi)
  · rw [List.getD_eq_getElem?_getD, List.getElem?_eq_none hi]; decide
theorem tl_back {s : ByteArray} {ta : List Nat} (hl : ta.length = 10) (hb : ∀ v ∈ ta, v < 65536) : ∀ (n f p : Nat), n ≤ 5 → p ≤ s.size → s.data.toList.drop p = talR ta n → s.size - p + 1 ≤ f → tlF s f p 0 (pt ta (5 - n)) = (ta, s.size, 0)
  | 0, f, p, _, hp, hd, _ => by
    have h0 : s.size - p = 0 := by rw [← W.drop_len hp, hd]; rfl
    rw [tlF_stop (by omega), show 5 - 0 = 5 from rfl, pt_five hl]
    rw [show p = s.size by omega]
  | n + 1, f, p, hn, hp, hd, hf => by
    have hi : 4 - n < 5 := by omega
    rw [show 5 - (n + 1) = 4 - n by omega]
    rw [talR] at hd
    by_cases hz : ta.getD (2 * (4 - n)) 0 = 0 ∧ ta.getD (2 * (4 - n) + 1) 0 = 0
    · rw [pt_zeros hl hi hz.1 hz.2, show 4 - n + 1 = 5 - n by omega]
      refine tl_back hl hb n f p (by omega) hp ?_ hf
      rw [hd, tal1, if_pos hz]; rfl
    · rw [tal1, if_neg hz] at hd
      have hx := getD_bd hb (2 * (4 - n))
      have hy := getD_bd hb (2 * (4 - n) + 1)
      have hst := pt_step hl hi
      generalize ta.getD (2 * (4 - n)) 0 = x at *
      generalize ta.getD (2 * (4 - n) + 1) 0 = y at *
      have hlen := W.drop_len hp
      rw [hd] at hlen
      simp only [List.cons_append, List.length_cons, List.length_append, W.fixB_length] at hlen
      have hb1 : (UInt8.ofNat (4 - n + 1)).toNat = 4 - n + 1 := by simp; omega
      have d1 : s.data.toList.drop p = W.fixB (4 - n + 1) 1 ++ (W.fixB x 2 ++ (W.fixB y 2 ++ talR ta n)) := by
        have q := fix1 (UInt8.ofNat (4 - n + 1))
        rw [hb1] at q
        rw [hd, q]; simp
      have f1 := W.fix_fwd (v := 4 - n + 1) (n := 1) hp d1 (by decide) (by decide) (by omega)
      have d2 : s.data.toList.drop (p + 1) = W.fixB x 2 ++ (W.fixB y 2 ++ talR ta n) := by
        rw [← List.drop_drop, d1, List.drop_left' (by simp [W.fixB_length])]
      have f2 := W.fix_fwd (v := x) (n := 2) (p := p + 1) (by omega) d2 (by decide) (by decide) (by omega)
      have d3 : s.data.toList.drop (p + 3) = W.fixB y 2 ++ talR ta n := by
        rw [show p + 3 = p + 1 + 2 by omega, ← List.drop_drop, d2, List.drop_left' (by simp [W.fixB_length])]
      have f3 := W.fix_fwd (v := y) (n := 2) (p := p + 3) (by omega) d3 (by decide) (by decide) (by omega)
      have d4 : s.data.toList.drop (p + 5) = talR ta n := by
        rw [show p + 5 = p + 3 + 2 by omega, ← List.drop_drop, d3, List.drop_left' (by simp [W.fixB_length])]
      obtain ⟨g, rfl⟩ : ∃ g, f = g + 1 := ⟨f - 1, by omega⟩
      have hN : tlN s p 0 (pt ta (4 - n)) = (pt ta (4 - n + 1), p + 5, 0) := by
        unfold tlN
        rw [show ((1 : Nat) : Int) = 1 from rfl] at f1
        rw [show ((2 : Nat) : Int) = 2 from rfl] at f2 f3
        rw [f1]
        simp only
        rw [f2]
        simp only
        rw [show p + 1 + 2 = p + 3 by omega, f3]
        simp only
        rw [Nat.mod_eq_of_lt (show 4 - n + 1 < 256 by omega), Nat.mod_eq_of_lt hx, Nat.mod_eq_of_lt hy, hst]
      rw [tlF, if_pos ⟨by omega, rfl⟩, hN, show 4 - n + 1 = 5 - n by omega]
      exact tl_back hl hb n g (p + 5) (by omega) (by omega) d4 (by omega)
theorem takes_n {ta : List Nat} (hl : ta.length = 10) (hb : ∀ v ∈ ta, v < 65536) : Takes (tS (nT ta)) (some (nT ta)) := by
  intro u
  have hd : (tS (nT ta)).data.toList = [3] ++ talR ta 5 := by rw [tS_list, ← talU_R]; rfl
  have hz : (tS (nT ta)).size ≤ 26 ∧ 1 ≤ (tS (nT ta)).size := by
    rw [sz_of hd, ← talU_R]
    have := talU_len ta 5
    simp only [List.length_append, List.length_cons, List.length_nil]
    omega
  have ht := tl_back (s := tS (nT ta)) hl hb 5 ((tS (nT ta)).size - 1 + 1) 1 (Nat.le_refl _) hz.2 (by rw [hd]; rfl) (Nat.le_refl _)
  have h := take3 (tS (nT ta)) (by omega) 1 0 (first_byte hd) ta (tS (nT ta)).size 0 ht u
  have he : W.endE (tS (nT ta)).size (tS (nT ta)).size 0 = 0 := by simp [W.endE]
  rw [he, okT, if_pos ⟨rfl, (tS_list (nT ta)).symm⟩] at h
  exact h
end Go.Proofs.Ytpepgealeanecaa
