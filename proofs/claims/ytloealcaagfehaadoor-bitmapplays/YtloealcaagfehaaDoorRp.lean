/- The document's set: Put, Take, Has, Clear, Fill, Count, Next. -/
import Derived.Test.YtloealcaagfehaaDoorRm
import Derived.Test.YtloealcaagfehaaDoorBk
import Derived.Test.YtloealcaagfehaaDoorBg
namespace Go.Proofs.YtloealcaagfehaaDoor
open Go.RowKit

/-- a number becomes in, or not -/
def Bit.turn (S x : Nat) (b : Bool) : Nat := if b then S ||| 2 ^ x else Bit.out S x
theorem Bit.turn_bit (S x j : Nat) (b : Bool) : (Bit.turn S x b).testBit j = if x = j then b else S.testBit j := by
  cases b
  · rw [Bit.turn, if_neg (by simp), Bit.out_bit]
    by_cases h : x = j <;> simp [h]
  · rw [Bit.turn, if_pos rfl, Nat.testBit_or, Nat.testBit_two_pow]
    by_cases h : x = j <;> simp [h]
theorem rTurn {p q n S : Nat} {w : World} (h : Rm w p q n S) (x : Nat) (hx : x < n) (b : Bool) : Calls Tryd.prog 66 #[.pointer (some ⟨p, 0, none⟩), .int .i64 (x : Int), .bool b] w fun e w' => e = .returned (.int .i64 0) ∧ Rm w' p q n (Bit.turn S x b) ∧ U1 w w' q := by
  obtain ⟨cap, hc⟩ := h.c0
  have hb := h.b x hx
  have hf := h.fz x
  have HN := hide (h.lay (T := Bit.turn S x b) (b := b) hx (by rw [Bit.turn_bit, if_pos rfl]) (fun i hi => by rw [Bit.turn_bit, if_neg (Ne.symm hi)]))
  have HU := hide ((U1.refl w q).set x (.bool b))
  have h0 : ¬ (x : Int) < 0 := by omega
  have h1 : ¬ (n : Int) ≤ (x : Int) := by omega
  have h2 : (x : Int) < (n : Int) := by omega
  clear h
  go_enter Tryd.func66, Tryd.ntmps66
  go_wp2
  go_ret
  exact ⟨rfl, unhide HN, unhide HU⟩
theorem rTurnOut {p q n S : Nat} {w : World} (h : Rm w p q n S) (x : Int) (hx : x < 0 ∨ (n : Int) ≤ x) (b : Bool) : Calls Tryd.prog 66 #[.pointer (some ⟨p, 0, none⟩), .int .i64 x, .bool b] w fun e w' => e = .returned (.int .i64 1) ∧ w' = w := by
  obtain ⟨cap, hc⟩ := h.c0
  clear h
  by_cases h0 : x < 0
  · clear hx
    go_enter Tryd.func66, Tryd.ntmps66
    go_wp2
    go_ret
    exact ⟨rfl, rfl⟩
  · have h1 : (n : Int) ≤ x := by omega
    clear hx
    go_enter Tryd.func66, Tryd.ntmps66
    go_wp2
    go_ret
    exact ⟨rfl, rfl⟩
theorem rTurnNil (x : Int) (b : Bool) (w : World) : Calls Tryd.prog 66 #[.pointer none, .int .i64 x, .bool b] w fun e w' => e = .returned (.int .i64 2) ∧ w' = w := by
  go_enter Tryd.func66, Tryd.ntmps66
  go_wp2
  go_ret
  exact ⟨rfl, rfl⟩
theorem rHas {p q n S : Nat} {w : World} (h : Rm w p q n S) (x : Nat) (hx : x < n) : Calls Tryd.prog 62 #[.pointer (some ⟨p, 0, none⟩), .int .i64 (x : Int)] w fun e w' => e = .returned (.bool (S.testBit x)) ∧ w' = w := by
  obtain ⟨cap, hc⟩ := h.c0
  have hb := h.b x hx
  have h0 : (0 : Int) ≤ (x : Int) := by omega
  have h2 : (x : Int) < (n : Int) := by omega
  clear h
  generalize S.testBit x = b at *
  go_enter Tryd.func62, Tryd.ntmps62
  go_wp2
  go_ret
  exact ⟨rfl, rfl⟩
theorem rHasOut {p q n S : Nat} {w : World} (h : Rm w p q n S) (x : Int) (hx : x < 0 ∨ (n : Int) ≤ x) : Calls Tryd.prog 62 #[.pointer (some ⟨p, 0, none⟩), .int .i64 x] w fun e w' => e = .returned (.bool false) ∧ w' = w := by
  obtain ⟨cap, hc⟩ := h.c0
  clear h
  by_cases h0 : x < 0
  · have h0' : ¬ 0 ≤ x := by omega
    clear hx
    go_enter Tryd.func62, Tryd.ntmps62
    go_wp2
    go_ret
    exact ⟨rfl, rfl⟩
  · have h1 : ¬ x < (n : Int) := by omega
    have h0' : 0 ≤ x := by omega
    clear hx
    go_enter Tryd.func62, Tryd.ntmps62
    go_wp2
    go_ret
    exact ⟨rfl, rfl⟩
theorem rHasNil (x : Int) (w : World) : Calls Tryd.prog 62 #[.pointer none, .int .i64 x] w fun e w' => e = .returned (.bool false) ∧ w' = w := by
  go_enter Tryd.func62, Tryd.ntmps62
  go_wp2
  go_ret
  exact ⟨rfl, rfl⟩
theorem rCount {p q n S : Nat} {w : World} (h : Rm w p q n S) : Calls Tryd.prog 63 #[.pointer (some ⟨p, 0, none⟩)] w fun e w' => e = .returned (.int .i64 (Bit.count S n : Int)) ∧ Below w.heap.size w w' := by
  have HE := hide (rEach h)
  have HC := hide (Bit.count_els S n)
  clear h
  go_enter Tryd.func63, Tryd.ntmps63
  go_wp2_with fail
  refine (unhide HE).mono ?_
  rintro e w1 ⟨v, rfl, hown, hb⟩
  obtain ⟨ao, cap, rfl, _⟩ := lies_of_own hown
  have HB := hide hb
  have hl : ((Bit.els S n 0).map fun y => ((y : Nat) : Int)).length = Bit.count S n := by rw [List.length_map, unhide HC]
  rw [hl]
  clear hb hown HE hl
  go_wp2
  go_ret
  exact ⟨rfl, unhide HB⟩
theorem rClear {p q n S : Nat} {w : World} (h : Rm w p q n S) : Calls Tryd.prog 50 #[.pointer (some ⟨p, 0, none⟩)] w fun e w' => e = .returned (.tuple #[]) ∧ Rm w' p q n 0 ∧ U1 w w' q := by
  have HH := hide h
  have hle := h.le
  clear h
  go_enter Tryd.func50, Tryd.ntmps50
  go_wp2
  go_loopw [2] (fun i wr => ∃ (k T : Nat), k ≤ n ∧ i = .int .i64 k ∧ Hid (Rm wr p q n T ∧ U1 w wr q ∧ ∀ j, j < k → T.testBit j = false)) (fun i _ => n - (intOf i).toNat)
  case atStart => exact ⟨0, S, Nat.zero_le _, rfl, hide ⟨unhide HH, U1.refl _ _, fun j hj => absurd hj (Nat.not_lt_zero _)⟩⟩
  case round =>
    obtain ⟨k, T, hk, rfl, HI⟩ := hrel
    have HRw := hide (unhide HI).1
    go_wp2_with fail
    refine (rLen (unhide HRw)).mono ?_
    rintro e w1 ⟨rfl, hw⟩
    obtain rfl := hw.symm
    clear hw
    by_cases hlt : k < n
    · have hki : (k : Int) < (n : Int) := by omega
      obtain ⟨cap, hc⟩ := (unhide HRw).c0
      have hb := (unhide HRw).b k hlt
      have hf := (unhide HRw).fz k
      have HN := hide ((unhide HRw).lay (T := Bit.turn T k false) (b := false) hlt (by rw [Bit.turn_bit, if_pos rfl]) (fun i hi => by rw [Bit.turn_bit, if_neg (Ne.symm hi)]))
      have HU := hide ((unhide HI).2.1.set k (.bool false))
      have HZ : Hid (∀ j, j < k + 1 → (Bit.turn T k false).testBit j = false) := fun j hj => by
        rw [Bit.turn_bit]
        by_cases e : k = j
        · rw [if_pos e]
        · rw [if_neg e]; exact (unhide HI).2.2 j (by omega)
      generalize T.testBit k = b0 at *
      clear HI
      go_wp2
      go_roundw
      case rel => exact ⟨k + 1, _, by omega, by go_num, hide ⟨unhide HN, unhide HU, unhide HZ⟩⟩
      case measure => simp [intOf]; omega
    · have hkk : k = n := by omega
      subst hkk
      have HZ : Hid (T = 0) := Nat.eq_of_testBit_eq fun j => by
        rw [Nat.zero_testBit]
        by_cases hj : j < k
        · exact (unhide HI).2.2 j hj
        · exact Nat.testBit_lt_two_pow (Nat.lt_of_lt_of_le (unhide HI).1.lt (Nat.pow_le_pow_right (by decide) (by omega)))
      go_wp2
      go_returns
      exact ⟨rfl, by rw [← unhide HZ]; exact (unhide HI).1, (unhide HI).2.1⟩
end Go.Proofs.YtloealcaagfehaaDoor
