/- Both sides of Or, And, Minus, Copy, Same. -/
import Derived.Test.YtloealcaagfehaaDoorPv
import Derived.Test.YtloealcaagfehaaDoorBw
import Derived.Test.YtloealcaagfehaaDoorBy
import Derived.Test.YtloealcaagfehaaDoorRc
namespace Go.Proofs.YtloealcaagfehaaDoor
open Go.RowKit

section
variable {p q n S p' q' n' T : Nat} {w : World}
theorem Rn.norm (h : Rn w p q n S) : ∃ q2, (q2 = q ∨ q2 = p) ∧ q2 < w.heap.size ∧ Rn w p q2 n S := by
  rcases h with h | ⟨h1, h2, hd⟩
  · exact ⟨q, .inl rfl, h.qlt, .inl h⟩
  · exact ⟨p, .inr rfl, (Array.getElem?_eq_some_iff.1 hd).1, .inr ⟨h1, h2, hd⟩⟩
theorem nCopy (h : Rn w p q n S) : Calls Tryd.prog 43 #[.pointer (some ⟨p, 0, none⟩)] w fun e w' => ∃ p2 q2, e = .returned (.pointer (some ⟨p2, 0, none⟩)) ∧ w.heap.size ≤ p2 ∧ w.heap.size ≤ q2 ∧ q2 < w'.heap.size ∧ Rn w' p2 q2 n S ∧ Below w.heap.size w w' := by
  rcases h with h | ⟨rfl, rfl, hd⟩
  · refine (rCopy h).mono ?_
    rintro e w' ⟨p2, q2, rfl, h1, h2, h3, h4⟩
    obtain ⟨q3, h5, h6, h7⟩ := h3.norm
    refine ⟨p2, q3, rfl, h1, ?_, h6, h7, h4⟩
    rcases h5 with rfl | rfl
    · rcases h2 with h2 | rfl <;> omega
    · exact h1
  · refine (zCopy hd).mono ?_
    rintro e w' ⟨p2, rfl, h1, h2, h3⟩
    obtain ⟨q3, h5, h6, h7⟩ := h2.norm
    obtain rfl : q3 = p2 := by rcases h5 with h | h <;> exact h
    exact ⟨q3, q3, rfl, h1, h1, h6, h7, h3⟩
theorem nSame (h : Rn w p q n S) (h' : Rn w p' q' n' T) : Calls Tryd.prog 65 #[.pointer (some ⟨p, 0, none⟩), .pointer (some ⟨p', 0, none⟩)] w fun e w' => e = .returned (.bool (decide (n = n') && decide (S = T))) ∧ ∃ k, w' = w.drewN k := by
  by_cases hn : n = n'
  · subst hn
    rw [decide_eq_true (rfl : n = n), Bool.true_and]
    by_cases h0 : n = 0
    · subst h0
      obtain rfl : S = 0 := by have := h.lt; have : (2 : Nat) ^ 0 = 1 := rfl; omega
      obtain rfl : T = 0 := by have := h'.lt; have : (2 : Nat) ^ 0 = 1 := rfl; omega
      obtain ⟨ao, ca, hc⟩ := h.c0
      obtain ⟨bo, cb, hc'⟩ := h'.c0
      exact ySame hc hc'
    · rcases h with h | ⟨h, _⟩
      · rcases h' with h' | ⟨h', _⟩
        · exact rSame h h'
        · exact absurd h' h0
      · exact absurd h h0
  · rw [decide_eq_false hn, Bool.false_and]
    obtain ⟨ao, ca, hc⟩ := h.c0
    obtain ⟨bo, cb, hc'⟩ := h'.c0
    exact rSameBad hn hc hc'
theorem bSameBad (h : Bm w p q n S) (h' : Bm w p' q' n' T) (hne : n ≠ n') : Calls Tryd.prog 37 #[.pointer (some ⟨p, 0, none⟩), .pointer (some ⟨p', 0, none⟩)] w fun e w' => e = .returned (.bool false) ∧ ∃ k, w' = w.drewN k := by
  have h0 := h.c0
  have h0' := h'.c0
  have hn : ¬ (n : Int) = (n' : Int) := by omega
  clear h h' hne
  go_enter Tryd.func37, Tryd.ntmps37
  go_wp2
  go_quiet (fail)
  go_wp2
  go_ret
  exact ⟨rfl, _, rfl⟩
theorem aSame (h : Bm w p q n S) (h' : Bm w p' q' n' T) : Calls Tryd.prog 37 #[.pointer (some ⟨p, 0, none⟩), .pointer (some ⟨p', 0, none⟩)] w fun e w' => e = .returned (.bool (decide (n = n') && decide (S = T))) ∧ ∃ k, w' = w.drewN k := by
  by_cases hn : n = n'
  · subst hn
    rw [decide_eq_true (rfl : n = n), Bool.true_and]
    exact bSame h h'
  · rw [decide_eq_false hn, Bool.false_and]
    exact bSameBad h h' hn
theorem nWith (b1 b2 b3 : Bool) (R : Nat) (h : Rn w p q n S) (h' : Rn w p' q' n T) (hR : ∀ j, j < n → R.testBit j = Bit.mixB b1 b2 b3 (S.testBit j) (T.testBit j)) (hRl : R < 2 ^ n) :
    Calls Tryd.prog 67 #[.pointer (some ⟨p, 0, none⟩), .pointer (some ⟨p', 0, none⟩), .bool b1, .bool b2, .bool b3] w fun e w' => e = .returned (.int .i64 0) ∧ U1 w w' p ∧ ∃ q2, (w.heap.size ≤ q2 ∨ q2 = p) ∧ q2 < w'.heap.size ∧ Rn w' p q2 n R := by
  by_cases h0 : n = 0
  · subst h0
    obtain rfl : R = 0 := by have : (2 : Nat) ^ 0 = 1 := rfl; omega
    obtain ⟨bo, cb, hc'⟩ := h'.c0
    obtain ⟨ao, ca, hd⟩ : ∃ ao ca, w.heap[p]? = some (.cells #[.slice ao 0 ca] 72 (0, 0)) := by
      rcases h with h | ⟨_, _, hd⟩
      · obtain ⟨cap, hd⟩ := h.hd
        exact ⟨_, cap, hd⟩
      · exact ⟨none, 0, hd⟩
    refine (yWith hd hc' b1 b2 b3).mono ?_
    rintro e w' ⟨rfl, h1, h2⟩
    exact ⟨rfl, h1, p, .inr rfl, h2.plt, h2⟩
  · rcases h with h | ⟨h, _⟩
    · rcases h' with h' | ⟨h', _⟩
      · refine (rWith b1 b2 b3 h h' hR hRl).mono ?_
        rintro e w' ⟨rfl, h1, q2, h2, h3⟩
        obtain ⟨q3, h5, h6, h7⟩ := h3.norm
        refine ⟨rfl, h1, q3, ?_, h6, h7⟩
        rcases h5 with rfl | rfl
        · exact h2
        · exact .inr rfl
      · exact absurd h' h0
    · exact absurd h h0
theorem nWithBad (b1 b2 b3 : Bool) (h : Rn w p q n S) (h' : Rn w p' q' n' T) (hne : n ≠ n') :
    Calls Tryd.prog 67 #[.pointer (some ⟨p, 0, none⟩), .pointer (some ⟨p', 0, none⟩), .bool b1, .bool b2, .bool b3] w fun e w' => e = .returned (.int .i64 1) ∧ ∃ k, w' = w.drewN k := by
  obtain ⟨ao, ca, hc⟩ := h.c0
  obtain ⟨bo, cb, hc'⟩ := h'.c0
  exact rWithBad hne hc hc' b1 b2 b3
theorem nOr (h : Rn w p q n S) (h' : Rn w p' q' n T) : Calls Tryd.prog 47 #[.pointer (some ⟨p, 0, none⟩), .pointer (some ⟨p', 0, none⟩)] w fun e w' => e = .returned (.int .i64 0) ∧ U1 w w' p ∧ ∃ q2, (w.heap.size ≤ q2 ∨ q2 = p) ∧ q2 < w'.heap.size ∧ Rn w' p q2 n (S ||| T) := by
  have HW := hide (nWith true true true (S ||| T) h h' (fun j _ => by rw [Nat.testBit_or]; cases S.testBit j <;> cases T.testBit j <;> rfl) (Nat.or_lt_two_pow h.lt h'.lt))
  clear h h'
  go_enter Tryd.func47, Tryd.ntmps47
  go_wp2_with fail
  refine (unhide HW).mono ?_
  rintro e w1 ⟨rfl, HU, HQ⟩
  have HX := hide (And.intro HU HQ)
  clear HU HQ
  go_wp2
  go_ret
  exact ⟨rfl, unhide HX⟩
theorem nOrBad (h : Rn w p q n S) (h' : Rn w p' q' n' T) (hne : n ≠ n') : Calls Tryd.prog 47 #[.pointer (some ⟨p, 0, none⟩), .pointer (some ⟨p', 0, none⟩)] w fun e w' => e = .returned (.int .i64 1) ∧ ∃ k, w' = w.drewN k := by
  have HW := hide (nWithBad true true true h h' hne)
  clear h h' hne
  go_enter Tryd.func47, Tryd.ntmps47
  go_wp2_with fail
  refine (unhide HW).mono ?_
  rintro e w1 ⟨rfl, k, rfl⟩
  go_wp2
  go_ret
  exact ⟨rfl, _, rfl⟩
theorem nOrNone (o : Option Addr) (w : World) : Calls Tryd.prog 47 #[.pointer none, .pointer o] w fun e w' => e = .returned (.int .i64 2) ∧ w' = w := by
  have HW := hide (rWithNilL o true true true w)
  go_enter Tryd.func47, Tryd.ntmps47
  go_wp2_with fail
  refine (unhide HW).mono ?_
  rintro e w1 ⟨rfl, hw⟩
  obtain rfl := hw.symm
  clear hw
  go_wp2
  go_ret
  exact ⟨rfl, rfl⟩
theorem nOrNil (p : Nat) (w : World) : Calls Tryd.prog 47 #[.pointer (some ⟨p, 0, none⟩), .pointer none] w fun e w' => e = .returned (.int .i64 2) ∧ w' = w := by
  have HW := hide (rWithNilR p true true true w)
  go_enter Tryd.func47, Tryd.ntmps47
  go_wp2_with fail
  refine (unhide HW).mono ?_
  rintro e w1 ⟨rfl, hw⟩
  obtain rfl := hw.symm
  clear hw
  go_wp2
  go_ret
  exact ⟨rfl, rfl⟩
theorem nAnd (h : Rn w p q n S) (h' : Rn w p' q' n T) : Calls Tryd.prog 48 #[.pointer (some ⟨p, 0, none⟩), .pointer (some ⟨p', 0, none⟩)] w fun e w' => e = .returned (.int .i64 0) ∧ U1 w w' p ∧ ∃ q2, (w.heap.size ≤ q2 ∨ q2 = p) ∧ q2 < w'.heap.size ∧ Rn w' p q2 n (S &&& T) := by
  have HW := hide (nWith true false false (S &&& T) h h' (fun j _ => by rw [Nat.testBit_and]; cases S.testBit j <;> cases T.testBit j <;> rfl) (Nat.lt_of_le_of_lt Nat.and_le_left h.lt))
  clear h h'
  go_enter Tryd.func48, Tryd.ntmps48
  go_wp2_with fail
  refine (unhide HW).mono ?_
  rintro e w1 ⟨rfl, HU, HQ⟩
  have HX := hide (And.intro HU HQ)
  clear HU HQ
  go_wp2
  go_ret
  exact ⟨rfl, unhide HX⟩
theorem nAndBad (h : Rn w p q n S) (h' : Rn w p' q' n' T) (hne : n ≠ n') : Calls Tryd.prog 48 #[.pointer (some ⟨p, 0, none⟩), .pointer (some ⟨p', 0, none⟩)] w fun e w' => e = .returned (.int .i64 1) ∧ ∃ k, w' = w.drewN k := by
  have HW := hide (nWithBad true false false h h' hne)
  clear h h' hne
  go_enter Tryd.func48, Tryd.ntmps48
  go_wp2_with fail
  refine (unhide HW).mono ?_
  rintro e w1 ⟨rfl, k, rfl⟩
  go_wp2
  go_ret
  exact ⟨rfl, _, rfl⟩
theorem nAndNone (o : Option Addr) (w : World) : Calls Tryd.prog 48 #[.pointer none, .pointer o] w fun e w' => e = .returned (.int .i64 2) ∧ w' = w := by
  have HW := hide (rWithNilL o true false false w)
  go_enter Tryd.func48, Tryd.ntmps48
  go_wp2_with fail
  refine (unhide HW).mono ?_
  rintro e w1 ⟨rfl, hw⟩
  obtain rfl := hw.symm
  clear hw
  go_wp2
  go_ret
  exact ⟨rfl, rfl⟩
theorem nAndNil (p : Nat) (w : World) : Calls Tryd.prog 48 #[.pointer (some ⟨p, 0, none⟩), .pointer none] w fun e w' => e = .returned (.int .i64 2) ∧ w' = w := by
  have HW := hide (rWithNilR p true false false w)
  go_enter Tryd.func48, Tryd.ntmps48
  go_wp2_with fail
  refine (unhide HW).mono ?_
  rintro e w1 ⟨rfl, hw⟩
  obtain rfl := hw.symm
  clear hw
  go_wp2
  go_ret
  exact ⟨rfl, rfl⟩
theorem nMinus (h : Rn w p q n S) (h' : Rn w p' q' n T) : Calls Tryd.prog 49 #[.pointer (some ⟨p, 0, none⟩), .pointer (some ⟨p', 0, none⟩)] w fun e w' => e = .returned (.int .i64 0) ∧ U1 w w' p ∧ ∃ q2, (w.heap.size ≤ q2 ∨ q2 = p) ∧ q2 < w'.heap.size ∧ Rn w' p q2 n (Bit.minus S T) := by
  have HW := hide (nWith false true false (Bit.minus S T) h h' (fun j _ => by rw [Bit.minus_bit]; cases S.testBit j <;> cases T.testBit j <;> rfl) (Bit.minus_lt h.lt T))
  clear h h'
  go_enter Tryd.func49, Tryd.ntmps49
  go_wp2_with fail
  refine (unhide HW).mono ?_
  rintro e w1 ⟨rfl, HU, HQ⟩
  have HX := hide (And.intro HU HQ)
  clear HU HQ
  go_wp2
  go_ret
  exact ⟨rfl, unhide HX⟩
theorem nMinusBad (h : Rn w p q n S) (h' : Rn w p' q' n' T) (hne : n ≠ n') : Calls Tryd.prog 49 #[.pointer (some ⟨p, 0, none⟩), .pointer (some ⟨p', 0, none⟩)] w fun e w' => e = .returned (.int .i64 1) ∧ ∃ k, w' = w.drewN k := by
  have HW := hide (nWithBad false true false h h' hne)
  clear h h' hne
  go_enter Tryd.func49, Tryd.ntmps49
  go_wp2_with fail
  refine (unhide HW).mono ?_
  rintro e w1 ⟨rfl, k, rfl⟩
  go_wp2
  go_ret
  exact ⟨rfl, _, rfl⟩
theorem nMinusNone (o : Option Addr) (w : World) : Calls Tryd.prog 49 #[.pointer none, .pointer o] w fun e w' => e = .returned (.int .i64 2) ∧ w' = w := by
  have HW := hide (rWithNilL o false true false w)
  go_enter Tryd.func49, Tryd.ntmps49
  go_wp2_with fail
  refine (unhide HW).mono ?_
  rintro e w1 ⟨rfl, hw⟩
  obtain rfl := hw.symm
  clear hw
  go_wp2
  go_ret
  exact ⟨rfl, rfl⟩
theorem nMinusNil (p : Nat) (w : World) : Calls Tryd.prog 49 #[.pointer (some ⟨p, 0, none⟩), .pointer none] w fun e w' => e = .returned (.int .i64 2) ∧ w' = w := by
  have HW := hide (rWithNilR p false true false w)
  go_enter Tryd.func49, Tryd.ntmps49
  go_wp2_with fail
  refine (unhide HW).mono ?_
  rintro e w1 ⟨rfl, hw⟩
  obtain rfl := hw.symm
  clear hw
  go_wp2
  go_ret
  exact ⟨rfl, rfl⟩
theorem rPutNil (x : Int) (w : World) : Calls Tryd.prog 44 #[.pointer none, .int .i64 x] w fun e w' => e = .returned (.int .i64 2) ∧ w' = w := by
  have HW := hide (rTurnNil x true w)
  go_enter Tryd.func44, Tryd.ntmps44
  go_wp2_with (go_at_call 66; refine (unhide HW).mono ?_; rintro e w1 ⟨rfl, hw⟩; obtain rfl := hw.symm; clear hw)
  go_ret
  exact ⟨rfl, rfl⟩
theorem rTakeNil (x : Int) (w : World) : Calls Tryd.prog 45 #[.pointer none, .int .i64 x] w fun e w' => e = .returned (.int .i64 2) ∧ w' = w := by
  have HW := hide (rTurnNil x false w)
  go_enter Tryd.func45, Tryd.ntmps45
  go_wp2_with (go_at_call 66; refine (unhide HW).mono ?_; rintro e w1 ⟨rfl, hw⟩; obtain rfl := hw.symm; clear hw)
  go_ret
  exact ⟨rfl, rfl⟩
theorem rNextNil (x : Int) (w : World) : Calls Tryd.prog 64 #[.pointer none, .int .i64 x] w fun e w' => e = .returned (.tuple #[.int .i64 0, .bool false]) ∧ w' = w := zNext x (rEachNil w)
end
end Go.Proofs.YtloealcaagfehaaDoor
