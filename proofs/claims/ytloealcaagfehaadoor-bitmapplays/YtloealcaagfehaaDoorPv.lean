/- Both sides of Put, Take, Fill: one answer, at every number. -/
import Derived.Test.YtloealcaagfehaaDoorRv
import Derived.Test.YtloealcaagfehaaDoorBno
import Derived.Test.YtloealcaagfehaaDoorBh
namespace Go.Proofs.YtloealcaagfehaaDoor
open Go.RowKit

namespace Sp
def inB (n : Nat) (x : Int) : Bool := decide (0 ≤ x) && decide (x < (n : Int))
theorem inB_yes {n : Nat} {x : Int} (h : inB n x = true) : ∃ k : Nat, x = (k : Int) ∧ k < n := by
  simp only [inB, Bool.and_eq_true, decide_eq_true_eq] at h
  exact ⟨x.toNat, by omega, by omega⟩
theorem inB_no {n : Nat} {x : Int} (h : inB n x = false) : x < 0 ∨ (n : Int) ≤ x := by
  by_cases h0 : 0 ≤ x
  · by_cases h1 : x < (n : Int)
    · simp [inB, h0, h1] at h
    · omega
  · omega
theorem inB_nat {n k : Nat} (h : k < n) : inB n (k : Int) = true := by simp [inB]; omega
/-- the answer of Put and Take -/
def oneE (n : Nat) (x : Int) : Int := if inB n x then 0 else 1
def putS (n S : Nat) (x : Int) : Nat := if inB n x then S ||| 2 ^ x.toNat else S
def takeS (n S : Nat) (x : Int) : Nat := if inB n x then Bit.out S x.toNat else S
/-- may Fill? -/
def fits (n : Nat) (f b : Int) : Bool := decide (0 ≤ f) && (decide (f ≤ b) && decide (b ≤ (n : Int)))
def fillE (n : Nat) (f b : Int) : Int := if fits n f b then 0 else 1
def fillS (n S : Nat) (f b : Int) : Nat := if fits n f b then S ||| Bit.span f.toNat b.toNat else S
theorem fits_yes {n : Nat} {f b : Int} (h : fits n f b = true) : ∃ i j : Nat, f = (i : Int) ∧ b = (j : Int) ∧ i ≤ j ∧ j ≤ n := by
  simp only [fits, Bool.and_eq_true, decide_eq_true_eq] at h
  exact ⟨f.toNat, b.toNat, by omega, by omega, by omega, by omega⟩
theorem fits_no {n : Nat} {f b : Int} (h : fits n f b = false) : f < 0 ∨ b < f ∨ (n : Int) < b := by
  by_cases h0 : 0 ≤ f
  · by_cases h1 : f ≤ b
    · by_cases h2 : b ≤ (n : Int)
      · simp [fits, h0, h1, h2] at h
      · omega
    · omega
  · omega
end Sp
section
variable {p q n S : Nat} {w : World}
theorem bTakeOut (h : Bm w p q n S) (x : Int) (hx : x < 0 ∨ (n : Int) ≤ x) : Calls Tryd.prog 25 #[.pointer (some ⟨p, 0, none⟩), .int .i64 x] w fun e w' => e = .returned (.int .i64 1) ∧ w' = w := by
  have HR := hide (bRefusedOut h x hx)
  clear h hx
  go_enter Tryd.func25, Tryd.ntmps25
  go_wp2_with (go_at_call 52; refine (unhide HR).mono ?_; rintro e w1 ⟨rfl, hw1⟩; obtain rfl := hw1.symm; clear hw1)
  go_ret
  exact ⟨rfl, rfl⟩
theorem bFillOut (h : Bm w p q n S) (f b : Int) (hx : f < 0 ∨ b < f ∨ (n : Int) < b) : Calls Tryd.prog 32 #[.pointer (some ⟨p, 0, none⟩), .int .i64 f, .int .i64 b] w fun e w' => e = .returned (.int .i64 1) ∧ w' = w := by
  have hc := h.c0
  clear h
  by_cases h1 : f < 0
  · clear hx
    go_enter Tryd.func32, Tryd.ntmps32
    go_wp2
    go_ret
    exact ⟨rfl, rfl⟩
  · by_cases h2 : b < f
    · clear hx
      go_enter Tryd.func32, Tryd.ntmps32
      go_wp2
      go_ret
      exact ⟨rfl, rfl⟩
    · have h3 : (n : Int) < b := by omega
      clear hx
      go_enter Tryd.func32, Tryd.ntmps32
      go_wp2
      go_ret
      exact ⟨rfl, rfl⟩
theorem aPut (h : Bm w p q n S) (x : Int) : Calls Tryd.prog 24 #[.pointer (some ⟨p, 0, none⟩), .int .i64 x] w fun e w' => e = .returned (.int .i64 (Sp.oneE n x)) ∧ Bm w' p q n (Sp.putS n S x) ∧ U1 w w' q := by
  cases hb : Sp.inB n x with
  | true =>
    obtain ⟨k, rfl, hk⟩ := Sp.inB_yes hb
    simp only [Sp.oneE, Sp.putS, hb, if_true, Int.toNat_natCast]
    exact bPut h k hk
  | false =>
    refine (bPutOut h x (Sp.inB_no hb)).mono ?_
    rintro e w' ⟨rfl, rfl⟩
    simp only [Sp.oneE, Sp.putS, hb]
    exact ⟨rfl, h, U1.refl _ _⟩
theorem aTake (h : Bm w p q n S) (x : Int) : Calls Tryd.prog 25 #[.pointer (some ⟨p, 0, none⟩), .int .i64 x] w fun e w' => e = .returned (.int .i64 (Sp.oneE n x)) ∧ Bm w' p q n (Sp.takeS n S x) ∧ U1 w w' q := by
  cases hb : Sp.inB n x with
  | true =>
    obtain ⟨k, rfl, hk⟩ := Sp.inB_yes hb
    simp only [Sp.oneE, Sp.takeS, hb, if_true, Int.toNat_natCast]
    exact bTake h k hk
  | false =>
    refine (bTakeOut h x (Sp.inB_no hb)).mono ?_
    rintro e w' ⟨rfl, rfl⟩
    simp only [Sp.oneE, Sp.takeS, hb]
    exact ⟨rfl, h, U1.refl _ _⟩
theorem aFill (h : Bm w p q n S) (f b : Int) : Calls Tryd.prog 32 #[.pointer (some ⟨p, 0, none⟩), .int .i64 f, .int .i64 b] w fun e w' => e = .returned (.int .i64 (Sp.fillE n f b)) ∧ Bm w' p q n (Sp.fillS n S f b) ∧ U1 w w' q := by
  cases hb : Sp.fits n f b with
  | true =>
    obtain ⟨i, j, rfl, rfl, hij, hj⟩ := Sp.fits_yes hb
    simp only [Sp.fillE, Sp.fillS, hb, if_true, Int.toNat_natCast]
    exact bFill h i j hij hj
  | false =>
    refine (bFillOut h f b (Sp.fits_no hb)).mono ?_
    rintro e w' ⟨rfl, rfl⟩
    simp only [Sp.fillE, Sp.fillS, hb]
    exact ⟨rfl, h, U1.refl _ _⟩
theorem zPut (hc : w.cell? ⟨p, 0, none⟩ = some (.slice none 0 0)) (x : Int) : Calls Tryd.prog 44 #[.pointer (some ⟨p, 0, none⟩), .int .i64 x] w fun e w' => e = .returned (.int .i64 1) ∧ w' = w := by
  have HT := hide (zTurn hc x true)
  clear hc
  go_enter Tryd.func44, Tryd.ntmps44
  go_wp2_with (go_at_call 66; refine (unhide HT).mono ?_; rintro e w1 ⟨rfl, hw⟩; obtain rfl := hw.symm; clear hw)
  go_ret
  exact ⟨rfl, rfl⟩
theorem zTake (hc : w.cell? ⟨p, 0, none⟩ = some (.slice none 0 0)) (x : Int) : Calls Tryd.prog 45 #[.pointer (some ⟨p, 0, none⟩), .int .i64 x] w fun e w' => e = .returned (.int .i64 1) ∧ w' = w := by
  have HT := hide (zTurn hc x false)
  clear hc
  go_enter Tryd.func45, Tryd.ntmps45
  go_wp2_with (go_at_call 66; refine (unhide HT).mono ?_; rintro e w1 ⟨rfl, hw⟩; obtain rfl := hw.symm; clear hw)
  go_ret
  exact ⟨rfl, rfl⟩
theorem nPut (h : Rn w p q n S) (x : Int) : Calls Tryd.prog 44 #[.pointer (some ⟨p, 0, none⟩), .int .i64 x] w fun e w' => e = .returned (.int .i64 (Sp.oneE n x)) ∧ Rn w' p q n (Sp.putS n S x) ∧ U2 w w' p q := by
  cases hb : Sp.inB n x with
  | true =>
    obtain ⟨k, rfl, hk⟩ := Sp.inB_yes hb
    rcases h with h | ⟨rfl, _, _⟩
    · simp only [Sp.oneE, Sp.putS, hb, if_true, Int.toNat_natCast]
      refine (rPut h k hk).mono ?_
      rintro e w' ⟨rfl, h1, h2⟩
      exact ⟨rfl, .inl h1, h2.two p⟩
    · exact absurd hk (Nat.not_lt_zero _)
  | false =>
    simp only [Sp.oneE, Sp.putS, hb]
    rcases h with h | ⟨rfl, rfl, hd⟩
    · refine (rPutOut h x (Sp.inB_no hb)).mono ?_
      rintro e w' ⟨rfl, rfl⟩
      exact ⟨rfl, .inl h, U2.refl _ _ _⟩
    · refine (zPut (Rn.z hd) x).mono ?_
      rintro e w' ⟨rfl, rfl⟩
      exact ⟨rfl, .inr ⟨rfl, rfl, hd⟩, U2.refl _ _ _⟩
theorem nTake (h : Rn w p q n S) (x : Int) : Calls Tryd.prog 45 #[.pointer (some ⟨p, 0, none⟩), .int .i64 x] w fun e w' => e = .returned (.int .i64 (Sp.oneE n x)) ∧ Rn w' p q n (Sp.takeS n S x) ∧ U2 w w' p q := by
  cases hb : Sp.inB n x with
  | true =>
    obtain ⟨k, rfl, hk⟩ := Sp.inB_yes hb
    rcases h with h | ⟨rfl, _, _⟩
    · simp only [Sp.oneE, Sp.takeS, hb, if_true, Int.toNat_natCast]
      refine (rTake h k hk).mono ?_
      rintro e w' ⟨rfl, h1, h2⟩
      exact ⟨rfl, .inl h1, h2.two p⟩
    · exact absurd hk (Nat.not_lt_zero _)
  | false =>
    simp only [Sp.oneE, Sp.takeS, hb]
    rcases h with h | ⟨rfl, rfl, hd⟩
    · refine (rTakeOut h x (Sp.inB_no hb)).mono ?_
      rintro e w' ⟨rfl, rfl⟩
      exact ⟨rfl, .inl h, U2.refl _ _ _⟩
    · refine (zTake (Rn.z hd) x).mono ?_
      rintro e w' ⟨rfl, rfl⟩
      exact ⟨rfl, .inr ⟨rfl, rfl, hd⟩, U2.refl _ _ _⟩
theorem nFill (h : Rn w p q n S) (f b : Int) : Calls Tryd.prog 46 #[.pointer (some ⟨p, 0, none⟩), .int .i64 f, .int .i64 b] w fun e w' => e = .returned (.int .i64 (Sp.fillE n f b)) ∧ Rn w' p q n (Sp.fillS n S f b) ∧ U2 w w' p q := by
  cases hb : Sp.fits n f b with
  | true =>
    obtain ⟨i, j, rfl, rfl, hij, hj⟩ := Sp.fits_yes hb
    simp only [Sp.fillE, Sp.fillS, hb, if_true, Int.toNat_natCast]
    rcases h with h | ⟨rfl, rfl, hd⟩
    · refine (rFill h i j hij hj).mono ?_
      rintro e w' ⟨rfl, h1, h2⟩
      exact ⟨rfl, .inl h1, h2.two p⟩
    · obtain rfl : j = 0 := by omega
      obtain rfl : i = 0 := by omega
      refine (yFill (Rn.z hd)).mono ?_
      rintro e w' ⟨rfl, rfl⟩
      exact ⟨rfl, .inr ⟨rfl, by decide, hd⟩, U2.refl _ _ _⟩
  | false =>
    simp only [Sp.fillE, Sp.fillS, hb]
    obtain ⟨ao, cap, hc⟩ := h.c0
    refine (rFillBad hc f b (Sp.fits_no hb)).mono ?_
    rintro e w' ⟨rfl, rfl⟩
    exact ⟨rfl, h, U2.refl _ _ _⟩
end
end Go.Proofs.YtloealcaagfehaaDoor
