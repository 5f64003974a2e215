/- The journal: what a Put leaves of a disk, and what a loss of power leaves of that. Of no program but for names. -/
import Derived.Test.YtfdfbjijomepgaaDoorJo
namespace Go.Proofs.YtfdfbjijomepgaaDoor
open Go.RowKit

/-- the write number q of a Put -/
def wrq (f s : Nat) (l : List Pg) (q : Nat) : Nat × List UInt8 := if q < l.length then (f + 1 + q, (slotP f s q (l.getD q ⟨0, 0, 0, ⟨#[]⟩⟩)).enc) else (f, (hdrP f s l).enc)
def pendK (f s : Nat) (l : List Pg) (j : Nat) : List (Nat × List UInt8) := (List.range j).map (wrq f s l)
theorem pendK_succ (f s : Nat) (l : List Pg) (j : Nat) : pendK f s l (j + 1) = pendK f s l j ++ [wrq f s l j] := by simp [pendK, List.range_succ]
theorem pendK_len (f s : Nat) (l : List Pg) (j : Nat) : (pendK f s l j).length = j := by simp [pendK]
theorem pendK_at (f s : Nat) (l : List Pg) (j q : Nat) (h : q < j) : (pendK f s l j).getD q (0, []) = wrq f s l q := by
  rw [List.getD_eq_getElem?_getD, pendK, List.getElem?_map, List.getElem?_range h]
  rfl
/-- the fuse behind k acts -/
def burnt (φ : Int) (k : Nat) : Int := if φ < 0 then φ else φ - k
section
variable {d : D.Dk} {f s : Nat} {l : List Pg}
theorem write_ok {e : D.Dk} {x : Nat} {bs : List UInt8} (ho : e.off = false) (hx : x < e.lies.length) (hb : bs.length = 1024) : e.write (x : Int) bs = if e.fuse = 0 then (40, ⟨e.lies, e.pend, true, e.fuse⟩) else (0, ⟨e.lies, e.pend ++ [(x, bs)], false, burnt e.fuse 1⟩) := by
  have hr : e.refused (x : Int) = 0 := by
    unfold D.Dk.refused
    rw [ho, if_neg (by simp), if_pos (by omega)]
  unfold D.Dk.write
  rw [hr, if_neg (by simp), if_neg (by omega)]
  by_cases h0 : e.fuse = 0
  · rw [if_pos h0, if_pos h0]
    unfold D.Dk.asked
    rw [if_pos h0]
  · rw [if_neg h0, if_neg h0]
    unfold D.Dk.asked D.Dk.put burnt
    rw [if_neg h0]
    by_cases h1 : 0 < e.fuse
    · rw [if_pos h1, if_neg (by omega)]
      simp [ho]
    · rw [if_neg h1, if_pos (by omega)]
      simp [ho]
/-- k of a Put's writes went through, or the power went at one of them -/
def Ran (d : D.Dk) (f s : Nat) (l : List Pg) (k : Nat) (r : Int × D.Dk) : Prop :=
  (r = (0, ⟨d.lies, pendK f s l k, false, burnt d.fuse k⟩) ∧ (d.fuse < 0 ∨ (k : Int) ≤ d.fuse)) ∨ (∃ j, j < k ∧ r = (40, ⟨d.lies, pendK f s l j, true, 0⟩) ∧ 0 ≤ d.fuse)
theorem Ran.step {k : Nat} {r : Int × D.Dk} (h : Ran d f s l k r) (hx : (wrq f s l k).1 < d.lies.length) (hb : (wrq f s l k).2.length = 1024) : Ran d f s l (k + 1) (Noted r.1 r.2 (r.2.write ((wrq f s l k).1 : Int) (wrq f s l k).2)) := by
  rcases h with ⟨rfl, hf⟩ | ⟨j, hj, rfl, hf⟩
  · rw [Noted, if_pos rfl]
    have hwo := write_ok (e := ⟨d.lies, pendK f s l k, false, burnt d.fuse k⟩) (x := (wrq f s l k).1) (bs := (wrq f s l k).2) rfl hx hb
    simp only at hwo ⊢
    rw [hwo]
    by_cases h0 : burnt d.fuse k = 0
    · right
      simp only [h0, if_pos]
      refine ⟨k, by omega, rfl, ?_⟩
      unfold burnt at h0
      split at h0
      · omega
      · omega
    · left
      rw [if_neg h0]
      unfold burnt at h0 ⊢
      split at h0
      · rename_i h1
        exact ⟨by simp only [h1, if_pos, pendK_succ], .inl h1⟩
      · rename_i h1
        refine ⟨?_, .inr (by omega)⟩
        rw [if_neg (by omega), if_neg h1, if_neg h1, pendK_succ]
        congr 2
        omega
  · right
    rw [Noted, if_neg (by simp)]
    exact ⟨j, by omega, rfl, hf⟩
/-- all that Put may answer -/
theorem put_ran {P c : Nat} (ho : d.off = false) (hp : d.pend = []) (hP : d.lies.length = P) (hfit : ∀ q, q < l.length → f + 1 + q < P ∧ (slotP f s q (l.getD q ⟨0, 0, 0, ⟨#[]⟩⟩)).enc.length = 1024) (hh : f < P ∧ (hdrP f s l).enc.length = 1024) (_ : c = c) :
    (putS d f s l = (0, (⟨d.lies, pendK f s l (l.length + 1), false, burnt d.fuse (l.length + 2)⟩ : D.Dk).settle fun _ => 1024) ∧ (d.fuse < 0 ∨ (l.length : Int) + 2 ≤ d.fuse)) ∨ (∃ j, j ≤ l.length + 1 ∧ putS d f s l = (40, ⟨d.lies, pendK f s l j, true, 0⟩) ∧ 0 ≤ d.fuse) := by
  have hk : ∀ k, k ≤ l.length → Ran d f s l k (putK d f s l k) := fun k => by
    induction k with
    | zero =>
      intro _
      refine .inl ⟨?_, ?_⟩
      · rw [putK, pendK]
        simp only [List.range_zero, List.map_nil]
        unfold burnt
        obtain ⟨a, b, o, fu⟩ := d
        simp only at ho hp
        subst ho hp
        simp only
        congr 2
        split <;> omega
      · omega
    | succ k ih =>
      intro hk
      have h1 := (ih (by omega)).step (by rw [wrq, if_pos (by omega)]; show f + 1 + k < _; rw [hP]; exact (hfit k (by omega)).1) (by rw [wrq, if_pos (by omega)]; exact (hfit k (by omega)).2)
      rw [wrq, if_pos (by omega)] at h1
      exact h1
  have hH : Ran d f s l (l.length + 1) (putH d f s l) := by
    have h1 := (hk l.length (Nat.le_refl _)).step (by rw [wrq, if_neg (by omega), hP]; exact hh.1) (by rw [wrq, if_neg (by omega)]; exact hh.2)
    rw [wrq, if_neg (by omega)] at h1
    exact h1
  rcases hH with ⟨e, hf⟩ | ⟨j, hj, e, hf⟩
  · rw [putS, e, Noted, if_pos rfl]
    unfold D.Dk.sync
    simp only
    by_cases h0 : burnt d.fuse (l.length + 1) = 0
    · right
      refine ⟨l.length + 1, Nat.le_refl _, ?_, by unfold burnt at h0; split at h0 <;> omega⟩
      rw [if_neg (by simp), if_pos h0]
      unfold D.Dk.asked
      rw [if_pos h0]
      simp only [h0]
    · left
      rw [if_neg (by simp), if_neg h0]
      have hb : (⟨d.lies, pendK f s l (l.length + 1), false, burnt d.fuse (l.length + 1)⟩ : D.Dk).asked = ⟨d.lies, pendK f s l (l.length + 1), false, burnt d.fuse (l.length + 2)⟩ := by
        unfold D.Dk.asked
        rw [if_neg h0]
        unfold burnt at h0 ⊢
        by_cases h1 : d.fuse < 0
        · simp only [h1, if_pos]
          rw [if_neg (by omega)]
        · rw [if_neg h1] at h0 ⊢
          rw [if_neg h1]
          rw [if_pos (by show 0 < d.fuse - ((l.length + 1 : Nat) : Int); omega)]
          show (⟨d.lies, pendK f s l (l.length + 1), false, d.fuse - ((l.length + 1 : Nat) : Int) - 1⟩ : D.Dk) = _
          congr 1
          omega
      refine ⟨by rw [hb], ?_⟩
      unfold burnt at h0
      split at h0 <;> omega
  · right
    rw [putS, e, Noted, if_neg (by simp)]
    exact ⟨j, by omega, rfl, hf⟩
end
/-- what lies there behind a loss of power -/
theorem landed_other (e : D.Dk) (sh : Nat → Nat) (x : Nat) : ∀ k, (∀ q, q < k → (e.pend.getD q (0, [])).1 ≠ x) → (e.landed sh k).getD x [] = e.lies.getD x []
  | 0, _ => rfl
  | k + 1, h => by
    have ih := landed_other e sh x k (fun q hq => h q (by omega))
    have hk := h k (by omega)
    simp only [D.Dk.landed]
    rw [List.getD_eq_getElem?_getD, List.getElem?_set_ne hk, ← List.getD_eq_getElem?_getD]
    exact ih
theorem landed_hit (e : D.Dk) (sh : Nat → Nat) (x q : Nat) (hx : x < e.lies.length) (hq : (e.pend.getD q (0, [])).1 = x) : ∀ k, q < k → (∀ q', q' < k → q' ≠ q → (e.pend.getD q' (0, [])).1 ≠ x) → (e.landed sh k).getD x [] = mix (e.pend.getD q (0, [])).2 (e.lies.getD x []) (sh q)
  | 0, h, _ => absurd h (Nat.not_lt_zero _)
  | k + 1, h, ho => by
    simp only [D.Dk.landed]
    rcases Nat.lt_or_ge q k with h1 | h1
    · have hk := ho k (by omega) (by omega)
      rw [List.getD_eq_getElem?_getD, List.getElem?_set_ne hk, ← List.getD_eq_getElem?_getD]
      exact landed_hit e sh x q hx hq k h1 (fun q' h2 h3 => ho q' (by omega) h3)
    · obtain rfl : q = k := by omega
      have hl := D.Dk.landed_length e sh q
      rw [hq, List.getD_eq_getElem?_getD, List.getElem?_set_self (by rw [hl]; exact hx), Option.getD_some, landed_other e sh x q (fun q' h2 => ho q' (by omega) (by omega))]
      rfl
end Go.Proofs.YtfdfbjijomepgaaDoor
