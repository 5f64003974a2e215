/- The journal: a batch laid down, then a loss of power, page by page. Of no program but for names. -/
import Derived.Test.YtfdfbjijomepgaaDoorJp
namespace Go.Proofs.YtfdfbjijomepgaaDoor
open Go.RowKit

def pgOf (lies : List (List UInt8)) (x : Nat) : List UInt8 := lies.getD x []
theorem page_nil {d : D.Dk} (h : d.pend = []) : d.page = pgOf d.lies := by
  funext x
  unfold D.Dk.page D.newest pgOf
  rw [h]
  rfl
def shares (n j : Nat) (sh : Nat → Nat) : Nat → Nat
  | 0 => if n < j then sh n else 0
  | q + 1 => if q < j then sh q else 0
section
variable {f c s : Nat} {l : List Pg} {lies : List (List UInt8)} {j : Nat} {sh : Nat → Nat} {off : Bool} {fu : Int}
theorem wrq_lt {q : Nat} (h : q < l.length) : wrq f s l q = (f + 1 + q, (slotP f s q l[q]).enc) := by
  rw [wrq, if_pos h, List.getD_eq_getElem?_getD, List.getElem?_eq_getElem h]
  rfl
theorem wrq_ge {q : Nat} (h : l.length ≤ q) : wrq f s l q = (f, (hdrP f s l).enc) := by rw [wrq, if_neg (by omega)]
theorem land_other (x : Nat) (hj : j ≤ l.length + 1) (hx : x < f ∨ f + l.length < x) : ((⟨lies, pendK f s l j, off, fu⟩ : D.Dk).landed sh j).getD x [] = lies.getD x [] := by
  refine landed_other _ sh x j fun q hq => ?_
  show ((pendK f s l j).getD q (0, [])).1 ≠ x
  rw [pendK_at f s l j q hq]
  by_cases h : q < l.length
  · rw [wrq_lt h]
    show f + 1 + q ≠ x
    omega
  · rw [wrq_ge (by omega)]
    show f ≠ x
    omega
theorem land_hdr (hj : j ≤ l.length + 1) (hP : f < lies.length) : ((⟨lies, pendK f s l j, off, fu⟩ : D.Dk).landed sh j).getD f [] = mix (hdrP f s l).enc (lies.getD f []) (shares l.length j sh 0) := by
  rw [shares]
  by_cases h : l.length < j
  · rw [if_pos h]
    have e := pendK_at f s l j l.length h
    rw [wrq_ge (Nat.le_refl _)] at e
    have := landed_hit (⟨lies, pendK f s l j, off, fu⟩ : D.Dk) sh f l.length hP (by show ((pendK f s l j).getD l.length (0, [])).1 = f; rw [e]) j h (fun q hq hne => by
      show ((pendK f s l j).getD q (0, [])).1 ≠ f
      rw [pendK_at f s l j q hq, wrq_lt (by omega)]
      show f + 1 + q ≠ f
      omega)
    rw [this]
    show mix ((pendK f s l j).getD l.length (0, [])).2 _ _ = _
    rw [e]
  · rw [if_neg h, mix_zero]
    refine landed_other _ sh f j fun q hq => ?_
    show ((pendK f s l j).getD q (0, [])).1 ≠ f
    rw [pendK_at f s l j q hq, wrq_lt (by omega)]
    show f + 1 + q ≠ f
    omega
theorem land_slot (i : Nat) (hi : i < l.length) (hP : f + 1 + i < lies.length) : ((⟨lies, pendK f s l j, off, fu⟩ : D.Dk).landed sh j).getD (f + 1 + i) [] = mix (slotP f s i l[i]).enc (lies.getD (f + 1 + i) []) (shares l.length j sh (i + 1)) := by
  rw [shares]
  have hne : ∀ q, q < j → q ≠ i → ((pendK f s l j).getD q (0, [])).1 ≠ f + 1 + i := fun q hq hne => by
    rw [pendK_at f s l j q hq]
    by_cases h : q < l.length
    · rw [wrq_lt h]
      show f + 1 + q ≠ _
      omega
    · rw [wrq_ge (by omega)]
      show f ≠ _
      omega
  by_cases h : i < j
  · rw [if_pos h]
    have e := pendK_at f s l j i h
    rw [wrq_lt hi] at e
    have := landed_hit (⟨lies, pendK f s l j, off, fu⟩ : D.Dk) sh (f + 1 + i) i hP (by show ((pendK f s l j).getD i (0, [])).1 = _; rw [e]) j h hne
    rw [this]
    show mix ((pendK f s l j).getD i (0, [])).2 _ _ = _
    rw [e]
  · rw [if_neg h, mix_zero]
    exact landed_other _ sh (f + 1 + i) j fun q hq => hne q hq (by omega)
/-- what a loss of power leaves of a Put, page by page -/
theorem land_stp (hj : j ≤ l.length + 1) (hP : f + c ≤ lies.length) (hn : l.length + 1 ≤ c) (hs : ∀ i, sh i % 8 = 0 ∧ sh i ≤ 1024) :
    Stp (pgOf lies) (pgOf ((⟨lies, pendK f s l j, off, fu⟩ : D.Dk).landed sh j)) f c s l (shares l.length j sh) where
  hdr := land_hdr hj (by omega)
  slot q hq := land_slot q hq (by omega)
  rest q h1 _ := land_other (f + 1 + q) hj (by omega)
  m8 i := by
    cases i with
    | zero =>
      rw [shares]
      split
      · exact hs _
      · exact ⟨rfl, Nat.zero_le _⟩
    | succ q =>
      rw [shares]
      split
      · exact hs _
      · exact ⟨rfl, Nat.zero_le _⟩
/-- what a whole Put leaves -/
theorem land_full (hP : f + c ≤ lies.length) (hn : l.length + 1 ≤ c) :
    Stp (pgOf lies) (pgOf ((⟨lies, pendK f s l (l.length + 1), off, fu⟩ : D.Dk).landed (fun _ => 1024) (l.length + 1))) f c s l (fun _ => 1024) where
  hdr := by
    have := land_hdr (f := f) (s := s) (l := l) (lies := lies) (off := off) (fu := fu) (sh := fun _ => 1024) (Nat.le_refl (l.length + 1)) (by omega)
    rw [shares, if_pos (by omega)] at this
    exact this
  slot q hq := by
    have := land_slot (f := f) (s := s) (l := l) (lies := lies) (off := off) (fu := fu) (sh := fun _ => 1024) (j := l.length + 1) q hq (by omega)
    rw [shares, if_pos (by omega)] at this
    exact this
  rest q h1 _ := land_other (f + 1 + q) (Nat.le_refl _) (by omega)
  m8 _ := ⟨rfl, Nat.le_refl _⟩
end
theorem share_8 (ks : List Bool) (torn cut : Int) (i : Nat) : D.share ks torn cut i % 8 = 0 ∧ D.share ks torn cut i ≤ 1024 := by
  unfold D.share
  split
  · have : min (max cut 0) 128 ≤ 128 := Int.min_le_right _ _
    omega
  · split
    · exact ⟨rfl, Nat.le_refl _⟩
    · exact ⟨rfl, Nat.zero_le _⟩
end Go.Proofs.YtfdfbjijomepgaaDoor
