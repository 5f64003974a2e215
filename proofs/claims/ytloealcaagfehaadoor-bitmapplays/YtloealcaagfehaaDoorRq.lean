/- The document's set: Put, Take, Fill, Next, Same. -/
import Derived.Test.YtloealcaagfehaaDoorRp
import Derived.Test.YtloealcaagfehaaDoorBh
namespace Go.Proofs.YtloealcaagfehaaDoor
open Go.RowKit

theorem Bit.els_pw (S n : Nat) : (Bit.els S n 0).Pairwise (· < ·) := by
  rw [Bit.els]
  exact List.Pairwise.filter _ (List.pairwise_lt_range' (s := 0) (n := n - 0))
theorem Bit.els_at {S n i : Nat} (hi : i < n) (hb : S.testBit i = true) : ∃ j, ∃ hj : j < (Bit.els S n 0).length, (Bit.els S n 0)[j] = i := by
  have : i ∈ Bit.els S n 0 := Bit.els_mem.2 ⟨Nat.zero_le _, hi, hb⟩
  obtain ⟨j, hj, e⟩ := List.mem_iff_getElem.1 this
  exact ⟨j, hj, e⟩
theorem nexts_at {S n X k : Nat} {x : Int} (hX : max x 0 = (X : Int)) (hk : k < (Bit.els S n 0).length) (hx : x ≤ ((Bit.els S n 0)[k] : Int)) (hall : ∀ j (hj : j < (Bit.els S n 0).length), j < k → ¬ x ≤ ((Bit.els S n 0)[j] : Int)) : Nexts S n X (.tuple #[.int .i64 ((Bit.els S n 0)[k] : Int), .bool true]) := by
  have hm := Bit.els_mem.1 (List.getElem_mem hk)
  have hXy : X ≤ (Bit.els S n 0)[k] := by omega
  refine .inl ⟨_, Bit.els_some hm.2.1 hm.2.2 ((Bit.els S n 0)[k] - X) X (by omega) (fun i h1 h2 => ?_), hm.2.1, hXy, rfl⟩
  cases hb : S.testBit i with
  | false => rfl
  | true =>
    obtain ⟨j, hj, e⟩ := Bit.els_at (show i < n by omega) hb
    have hjk : j < k := by
      rcases Nat.lt_or_ge j k with h | h
      · exact h
      · rcases Nat.lt_or_eq_of_le h with h | h
        · have := List.pairwise_iff_getElem.1 (Bit.els_pw S n) k j hk hj h
          omega
        · subst h; omega
    have := hall j hj hjk
    omega
theorem nexts_none {S n X : Nat} {x : Int} (hX : max x 0 = (X : Int)) (hall : ∀ j (hj : j < (Bit.els S n 0).length), ¬ x ≤ ((Bit.els S n 0)[j] : Int)) : Nexts S n X (.tuple #[.int .i64 0, .bool false]) := by
  refine .inr ⟨Bit.els_none fun i h1 h2 => ?_, rfl⟩
  cases hb : S.testBit i with
  | false => rfl
  | true =>
    obtain ⟨j, hj, e⟩ := Bit.els_at h2 hb
    have := hall j hj
    omega
section
variable {p q n S : Nat} {w : World}
theorem rPut (h : Rm w p q n S) (x : Nat) (hx : x < n) : Calls Tryd.prog 44 #[.pointer (some ⟨p, 0, none⟩), .int .i64 (x : Int)] w fun e w' => e = .returned (.int .i64 0) ∧ Rm w' p q n (S ||| 2 ^ x) ∧ U1 w w' q := by
  have HT := hide (rTurn h x hx true)
  clear h
  go_enter Tryd.func44, Tryd.ntmps44
  go_wp2_with fail
  refine (unhide HT).mono ?_
  rintro e w1 ⟨rfl, hm, hu⟩
  have HM := hide hm
  have HU := hide hu
  clear hm hu HT
  go_wp2
  go_ret
  exact ⟨rfl, unhide HM, unhide HU⟩
theorem rTake (h : Rm w p q n S) (x : Nat) (hx : x < n) : Calls Tryd.prog 45 #[.pointer (some ⟨p, 0, none⟩), .int .i64 (x : Int)] w fun e w' => e = .returned (.int .i64 0) ∧ Rm w' p q n (Bit.out S x) ∧ U1 w w' q := by
  have HT := hide (rTurn h x hx false)
  clear h
  go_enter Tryd.func45, Tryd.ntmps45
  go_wp2_with fail
  refine (unhide HT).mono ?_
  rintro e w1 ⟨rfl, hm, hu⟩
  have HM := hide hm
  have HU := hide hu
  clear hm hu HT
  go_wp2
  go_ret
  exact ⟨rfl, unhide HM, unhide HU⟩
theorem rPutOut (h : Rm w p q n S) (x : Int) (hx : x < 0 ∨ (n : Int) ≤ x) : Calls Tryd.prog 44 #[.pointer (some ⟨p, 0, none⟩), .int .i64 x] w fun e w' => e = .returned (.int .i64 1) ∧ w' = w := by
  have HT := hide (rTurnOut h x hx true)
  clear h hx
  go_enter Tryd.func44, Tryd.ntmps44
  go_wp2_with (go_at_call 66; refine (unhide HT).mono ?_; rintro e w1 ⟨rfl, hw⟩; obtain rfl := hw.symm; clear hw)
  go_ret
  exact ⟨rfl, rfl⟩
theorem rTakeOut (h : Rm w p q n S) (x : Int) (hx : x < 0 ∨ (n : Int) ≤ x) : Calls Tryd.prog 45 #[.pointer (some ⟨p, 0, none⟩), .int .i64 x] w fun e w' => e = .returned (.int .i64 1) ∧ w' = w := by
  have HT := hide (rTurnOut h x hx false)
  clear h hx
  go_enter Tryd.func45, Tryd.ntmps45
  go_wp2_with (go_at_call 66; refine (unhide HT).mono ?_; rintro e w1 ⟨rfl, hw⟩; obtain rfl := hw.symm; clear hw)
  go_ret
  exact ⟨rfl, rfl⟩
theorem rFill (h : Rm w p q n S) (f b : Nat) (hf : f ≤ b) (hb : b ≤ n) : Calls Tryd.prog 46 #[.pointer (some ⟨p, 0, none⟩), .int .i64 (f : Int), .int .i64 (b : Int)] w fun e w' => e = .returned (.int .i64 0) ∧ Rm w' p q n (S ||| Bit.span f b) ∧ U1 w w' q := by
  have HH := hide h
  have hle := h.le
  obtain ⟨cap0, hc0⟩ := h.c0
  have c1 : ¬ (f : Int) < 0 := by omega
  have c2 : ¬ (b : Int) < (f : Int) := by omega
  have c3 : ¬ (n : Int) < (b : Int) := by omega
  have HB : Hid (b ≤ n) := hb
  have HF : Hid (f ≤ b) := hf
  have hfi : (f : Int) ≤ 65536 := by omega
  have hbi : (b : Int) ≤ 65536 := by omega
  clear h
  go_enter Tryd.func46, Tryd.ntmps46
  go_wp2
  go_loopw [7] (fun i wr => ∃ (k T : Nat), f ≤ k ∧ k ≤ b ∧ i = .int .i64 k ∧ Hid (Rm wr p q n T ∧ U1 w wr q ∧ ∀ j, T.testBit j = (S.testBit j || (decide (f ≤ j) && decide (j < k))))) (fun i _ => b - (intOf i).toNat)
  case atStart => exact ⟨f, S, Nat.le_refl _, hf, rfl, hide ⟨unhide HH, U1.refl _ _, fun j => by
    by_cases h1 : f ≤ j
    · have h2 : ¬ j < f := by omega
      simp [h2]
    · simp [h1]⟩⟩
  case round =>
    obtain ⟨k, T, hfk, hk, rfl, HI⟩ := hrel
    have HRw := hide (unhide HI).1
    by_cases hlt : k < b
    · have hki : (k : Int) < (b : Int) := by omega
      have hkn : (k : Int) < (n : Int) := by omega
      obtain ⟨cap, hc⟩ := (unhide HRw).c0
      have hbb := (unhide HRw).b k (by omega)
      have hfz := (unhide HRw).fz k
      have HN := hide ((unhide HRw).lay (T := Bit.turn T k true) (b := true) (show k < n by omega) (by rw [Bit.turn_bit, if_pos rfl]) (fun i hi => by rw [Bit.turn_bit, if_neg (Ne.symm hi)]))
      have HU := hide ((unhide HI).2.1.set k (.bool true))
      have HZ : Hid (∀ j, (Bit.turn T k true).testBit j = (S.testBit j || (decide (f ≤ j) && decide (j < k + 1)))) := fun j => by
        rw [Bit.turn_bit, (unhide HI).2.2 j]
        by_cases e : k = j
        · subst e
          rw [if_pos rfl, decide_eq_true hfk, decide_eq_true (show k < k + 1 by omega)]
          simp
        · have e2 : (j < k + 1) ↔ (j < k) := by omega
          rw [if_neg e]
          simp only [e2]
      generalize T.testBit k = b0 at *
      clear HI
      go_wp2
      go_roundw
      case rel => exact ⟨k + 1, _, by omega, by omega, by go_num, hide ⟨unhide HN, unhide HU, unhide HZ⟩⟩
      case measure => simp [intOf]; omega
    · have hkk : k = b := by omega
      subst hkk
      have HZ : Hid (T = S ||| Bit.span f k) := Nat.eq_of_testBit_eq fun j => by
        rw [(unhide HI).2.2 j, Nat.testBit_or, Bit.span_bit f k j (unhide HF)]
      go_wp2
      go_ret
      exact ⟨rfl, by rw [← unhide HZ]; exact (unhide HI).1, (unhide HI).2.1⟩
theorem rNext (h : Rm w p q n S) (x : Int) (X : Nat) (hX : max x 0 = (X : Int)) : Calls Tryd.prog 64 #[.pointer (some ⟨p, 0, none⟩), .int .i64 x] w fun e w' => (∃ v, e = .returned v ∧ Nexts S n X v) ∧ Below w.heap.size w w' := by
  have HE := hide (rEach h)
  have hle := h.le
  clear h
  go_enter Tryd.func64, Tryd.ntmps64
  go_wp2_with fail
  refine (unhide HE).mono ?_
  rintro e w1 ⟨v, rfl, hown, hb⟩
  obtain ⟨ao, cap, rfl, hl⟩ := lies_of_own hown
  have HB := hide hb
  have HL := hide hl
  have HLE := hide (Bit.els_length_le S n)
  obtain ⟨L, hL⟩ : ∃ L, L = ((Bit.els S n 0).map fun y => ((y : Nat) : Int)).length := ⟨_, rfl⟩
  rw [← hL]
  have hL2 : L = (Bit.els S n 0).length := by rw [hL, List.length_map]
  have hLb : L ≤ 65536 := by have := unhide HLE; omega
  have HLL := hide hL2
  clear hb hown hl HE hL hL2
  go_wp2
  go_loopw [7] (fun i wr => ∃ k : Nat, k ≤ L ∧ i = .int .i64 k ∧ wr = w1 ∧ Hid (∀ j (hj : j < (Bit.els S n 0).length), j < k → ¬ x ≤ ((Bit.els S n 0)[j] : Int))) (fun i _ => L - (intOf i).toNat)
  case atStart => exact ⟨0, Nat.zero_le _, rfl, rfl, hide (fun j _ h => absurd h (Nat.not_lt_zero _))⟩
  case round =>
    obtain ⟨k, hk, rfl, hu, HI⟩ := hrel
    obtain rfl := hu.symm
    clear hu
    by_cases hlt : k < L
    · have hki : (k : Int) < (L : Int) := by omega
      have hkE : k < (Bit.els S n 0).length := by rw [← unhide HLL]; exact hlt
      obtain ⟨g, o, rfl, hc⟩ := lies_at (unhide HL) k (by rw [List.length_map]; exact hkE)
      rw [List.getElem_map] at hc
      by_cases hxy : x ≤ ((Bit.els S n 0)[k] : Int)
      · have hNx : Nexts S n X (.tuple #[.int .i64 ((Bit.els S n 0)[k] : Int), .bool true]) := by
          exact nexts_at hX hkE hxy (unhide HI)
        have HNx := hide hNx
        clear HI hNx
        generalize (Bit.els S n 0)[k] = y at *
        go_wp2
        go_ret2
        exact ⟨⟨_, rfl, unhide HNx⟩, unhide HB⟩
      · have HN : Hid (∀ j (hj : j < (Bit.els S n 0).length), j < k + 1 → ¬ x ≤ ((Bit.els S n 0)[j] : Int)) := fun j hj hjk => by
          by_cases e : j = k
          · subst e; exact hxy
          · exact unhide HI j hj (by omega)
        clear HI
        generalize (Bit.els S n 0)[k] = y at *
        go_wp2
        go_roundw
        case rel => exact ⟨k + 1, by omega, by go_num, trivial, hide (unhide HN)⟩
        case measure => simp [intOf]; omega
    · have hkk : k = L := by omega
      subst hkk
      have HNx : Hid (Nexts S n X (.tuple #[.int .i64 0, .bool false])) := by
        exact nexts_none hX (fun j hj => unhide HI j hj (by rw [unhide HLL]; exact hj))
      go_wp2
      go_ret2
      exact ⟨⟨_, rfl, unhide HNx⟩, unhide HB⟩
end
end Go.Proofs.YtloealcaagfehaaDoor
