/- Trees: Level, Index, Parent, Kid, Node of both sides; the walk of TreeNodes. Written by mktab.py. -/
import Derived.Test.YtbahlfpcbplofaaDoorTaa
namespace Go.Proofs.YtbahlfpcbplofaaDoor.T
open Go.RowKit Go.Lib
set_option maxRecDepth 100000 in
theorem pLevel (n : Nat) (hn : n < 65536) (u : World) (ht : Tab u) : Calls Tryd.prog 23 #[.int .u16 (n : Int)] u fun e u' => e = .returned (.int .i8 (levI n)) ∧ u' = u := by
  have HT := hide ht
  clear ht
  have hni : (n : Int) < 65536 := by omega
  go_enter Tryd.func23, Tryd.ntmps23
  go_wp2
  go_loopw [4] (fun s4 wr => ∃ k : Nat, k ≤ 4 ∧ s4 = .int .i64 k ∧ Hid (fst k ≤ (n : Int)) ∧ Hid (wr = u)) (fun s4 _ => 4 - (intOf s4).toNat)
  case atStart => exact ⟨0, Nat.zero_le _, rfl, by show (0 : Int) ≤ _; omega, rfl⟩
  case round =>
    obtain ⟨k, hk, rfl, HK, HW⟩ := hrel
    by_cases hlt : k < 4
    · have hki : (k : Int) < 4 := by omega
      obtain rfl : wr = u := unhide HW
      have hix : ∀ W : World, (Instr.indexAt 91 (.pointer (some ⟨0, 0, none⟩)) (.int .i64 ((k : Int) + 1))).run Tryd.prog W = .ok (.pointer (some ⟨0, k + 1, none⟩)) W := fun W => ixF (k + 1) (by omega) W
      have hc := unhide HT (k + 1) (by omega)
      obtain ⟨p, hp⟩ : ∃ p, p = fst (k + 1) := ⟨_, rfl⟩
      rw [← hp] at hc
      have hk8 : IntKind.i8.wrap (k : Int) = (k : Int) := i8k k (by omega)
      generalize k + 1 = k1 at hix hc
      by_cases hq : (n : Int) < p
      · have HR : Hid (levI n = (k : Int)) := lev_lt hlt (unhide HK) (by rw [← hp]; exact hq)
        clear hp
        go_wp2
        go_ret
        exact ⟨by rw [unhide HR]; rfl, rfl⟩
      · have HR : Hid (fst (k + 1) ≤ (n : Int)) := by rw [← hp]; exact Int.not_lt.1 hq
        clear hp
        have hni0 : 0 ≤ (n : Int) := Int.natCast_nonneg n
        clear hn
        generalize (n : Int) = x at *
        go_wp2
        go_roundw
        case rel => exact ⟨k + 1, by omega, by go_num, unhide HR, trivial⟩
        case measure => simp [intOf]; omega
    · obtain rfl : k = 4 := by omega
      have HR : Hid (levI n = -1) := by
        have h1 : (4369 : Int) ≤ (n : Int) := unhide HK
        show levI n = -1
        unfold levI
        rw [if_neg (by omega), if_neg (by omega), if_neg (by omega), if_neg (by omega)]
      have hki : ¬ ((4 : Nat) : Int) < 4 := by decide
      go_wp2
      go_ret
      exact ⟨by rw [unhide HR]; rfl, unhide HW⟩
theorem ixE0 (W : World) : (Instr.indexAt 91 (.pointer (some ⟨0, 0, none⟩)) (.int .i8 0)).run Tryd.prog W = .ok (.pointer (some ⟨0, 0, none⟩)) W := by kernel_rfl
theorem ixE1 (W : World) : (Instr.indexAt 91 (.pointer (some ⟨0, 0, none⟩)) (.int .i8 1)).run Tryd.prog W = .ok (.pointer (some ⟨0, 1, none⟩)) W := by kernel_rfl
theorem ixE2 (W : World) : (Instr.indexAt 91 (.pointer (some ⟨0, 0, none⟩)) (.int .i8 2)).run Tryd.prog W = .ok (.pointer (some ⟨0, 2, none⟩)) W := by kernel_rfl
theorem ixE3 (W : World) : (Instr.indexAt 91 (.pointer (some ⟨0, 0, none⟩)) (.int .i8 3)).run Tryd.prog W = .ok (.pointer (some ⟨0, 3, none⟩)) W := by kernel_rfl
set_option maxRecDepth 100000 in
theorem pIndex (n : Nat) (hn : n < 65536) (u : World) (ht : Tab u) : Calls Tryd.prog 25 #[.int .u16 (n : Int)] u fun e u' => e = .returned (.int .i64 (idxI n)) ∧ u' = u := by
  have HT := hide ht
  have HL := hide (pLevel n hn u ht)
  clear ht
  rcases (by omega : n < 1 ∨ (1 ≤ n ∧ n < 17) ∨ (17 ≤ n ∧ n < 273) ∨ (273 ≤ n ∧ n < 4369) ∨ 4369 ≤ n) with h | h | h | h | h
  · have hv : levI n = 0 := by unfold levI; rw [if_pos (by omega)]
    have hx : idxI n = (n : Int) := by unfold idxI; rw [if_pos (by omega)]
    have h1 : (n : Int) < 1 := by omega
    have h2 : 0 ≤ (n : Int) := by omega
    rw [hv] at HL
    have HX := hide hx
    have hix := ixE0
    have hc := (unhide HT).cells.1
    clear h hv hx hn
    generalize (n : Int) = x at *
    go_enter Tryd.func25, Tryd.ntmps25
    go_wp2_with (first
      | (go_at_call 23; refine (unhide HL).mono ?_; rintro e W1 ⟨rfl, hw⟩; subst hw)
      | fail)
    go_ret
    exact ⟨by rw [unhide HX]; rfl, rfl⟩
  · have hv : levI n = 1 := by unfold levI; rw [if_neg (by omega), if_pos (by omega)]
    have hx : idxI n = (n : Int) - 1 := by unfold idxI; rw [if_neg (by omega), if_pos (by omega)]
    have h1 : 1 ≤ (n : Int) := by omega
    have h2 : (n : Int) < 17 := by omega
    rw [hv] at HL
    have HX := hide hx
    have hix := ixE1
    have hc := (unhide HT).cells.2.1
    clear h hv hx hn
    generalize (n : Int) = x at *
    go_enter Tryd.func25, Tryd.ntmps25
    go_wp2_with (first
      | (go_at_call 23; refine (unhide HL).mono ?_; rintro e W1 ⟨rfl, hw⟩; subst hw)
      | fail)
    go_ret
    exact ⟨by rw [unhide HX]; rfl, rfl⟩
  · have hv : levI n = 2 := by unfold levI; rw [if_neg (by omega), if_neg (by omega), if_pos (by omega)]
    have hx : idxI n = (n : Int) - 17 := by unfold idxI; rw [if_neg (by omega), if_neg (by omega), if_pos (by omega)]
    have h1 : 17 ≤ (n : Int) := by omega
    have h2 : (n : Int) < 273 := by omega
    rw [hv] at HL
    have HX := hide hx
    have hix := ixE2
    have hc := (unhide HT).cells.2.2.1
    clear h hv hx hn
    generalize (n : Int) = x at *
    go_enter Tryd.func25, Tryd.ntmps25
    go_wp2_with (first
      | (go_at_call 23; refine (unhide HL).mono ?_; rintro e W1 ⟨rfl, hw⟩; subst hw)
      | fail)
    go_ret
    exact ⟨by rw [unhide HX]; rfl, rfl⟩
  · have hv : levI n = 3 := by unfold levI; rw [if_neg (by omega), if_neg (by omega), if_neg (by omega), if_pos (by omega)]
    have hx : idxI n = (n : Int) - 273 := by unfold idxI; rw [if_neg (by omega), if_neg (by omega), if_neg (by omega), if_pos (by omega)]
    have h1 : 273 ≤ (n : Int) := by omega
    have h2 : (n : Int) < 4369 := by omega
    rw [hv] at HL
    have HX := hide hx
    have hix := ixE3
    have hc := (unhide HT).cells.2.2.2.1
    clear h hv hx hn
    generalize (n : Int) = x at *
    go_enter Tryd.func25, Tryd.ntmps25
    go_wp2_with (first
      | (go_at_call 23; refine (unhide HL).mono ?_; rintro e W1 ⟨rfl, hw⟩; subst hw)
      | fail)
    go_ret
    exact ⟨by rw [unhide HX]; rfl, rfl⟩
  · have hv : levI n = -1 := by unfold levI; rw [if_neg (by omega), if_neg (by omega), if_neg (by omega), if_neg (by omega)]
    have hx : idxI n = 0 := by unfold idxI; rw [if_neg (by omega), if_neg (by omega), if_neg (by omega), if_neg (by omega)]
    have h1 : 4369 ≤ (n : Int) := by omega
    have h2 : (n : Int) < 65536 := by omega
    rw [hv] at HL
    have HX := hide hx
    clear h hv hx hn
    generalize (n : Int) = x at *
    go_enter Tryd.func25, Tryd.ntmps25
    go_wp2_with (first
      | (go_at_call 23; refine (unhide HL).mono ?_; rintro e W1 ⟨rfl, hw⟩; have HW := hide hw; clear hw)
      | fail)
    go_ret
    exact ⟨by rw [unhide HX]; rfl, unhide HW⟩
set_option maxRecDepth 100000 in
theorem rIndex (n : Nat) (hn : n < 65536) (u : World) : Calls Tryd.prog 26 #[.int .u16 (n : Int)] u fun e u' => e = .returned (.int .i64 (idxI n)) ∧ u' = u := by
  have HL := hide (rLevel n hn u)
  rcases (by omega : n < 1 ∨ (1 ≤ n ∧ n < 17) ∨ (17 ≤ n ∧ n < 273) ∨ (273 ≤ n ∧ n < 4369) ∨ 4369 ≤ n) with h | h | h | h | h
  · have hv : levI n = 0 := by unfold levI; rw [if_pos (by omega)]
    have hx : idxI n = (n : Int) := by unfold idxI; rw [if_pos (by omega)]
    have h1 : (n : Int) < 1 := by omega
    have h2 : 0 ≤ (n : Int) := by omega
    rw [hv] at HL
    have HX := hide hx
    have HF := hide (fun W : World => rFirst 0 (by decide) W)
    have HF : Hid (∀ W : World, Calls Tryd.prog 53 #[.int .i64 0] W fun e u' => e = .returned (.int .i64 0) ∧ u' = W) := HF
    clear h hv hx hn
    generalize (n : Int) = x at *
    go_enter Tryd.func26, Tryd.ntmps26
    go_wp2_with (first
      | (go_at_call 24; refine (unhide HL).mono ?_; rintro e W1 ⟨rfl, hw⟩; subst hw)
      | (go_at_call 53; refine (unhide HF _).mono ?_; rintro e W2 ⟨rfl, hw⟩; subst hw)
      | fail)
    go_ret
    exact ⟨by rw [unhide HX]; rfl, rfl⟩
  · have hv : levI n = 1 := by unfold levI; rw [if_neg (by omega), if_pos (by omega)]
    have hx : idxI n = (n : Int) - 1 := by unfold idxI; rw [if_neg (by omega), if_pos (by omega)]
    have h1 : 1 ≤ (n : Int) := by omega
    have h2 : (n : Int) < 17 := by omega
    rw [hv] at HL
    have HX := hide hx
    have HF := hide (fun W : World => rFirst 1 (by decide) W)
    have HF : Hid (∀ W : World, Calls Tryd.prog 53 #[.int .i64 1] W fun e u' => e = .returned (.int .i64 1) ∧ u' = W) := HF
    clear h hv hx hn
    generalize (n : Int) = x at *
    go_enter Tryd.func26, Tryd.ntmps26
    go_wp2_with (first
      | (go_at_call 24; refine (unhide HL).mono ?_; rintro e W1 ⟨rfl, hw⟩; subst hw)
      | (go_at_call 53; refine (unhide HF _).mono ?_; rintro e W2 ⟨rfl, hw⟩; subst hw)
      | fail)
    go_ret
    exact ⟨by rw [unhide HX]; rfl, rfl⟩
  · have hv : levI n = 2 := by unfold levI; rw [if_neg (by omega), if_neg (by omega), if_pos (by omega)]
    have hx : idxI n = (n : Int) - 17 := by unfold idxI; rw [if_neg (by omega), if_neg (by omega), if_pos (by omega)]
    have h1 : 17 ≤ (n : Int) := by omega
    have h2 : (n : Int) < 273 := by omega
    rw [hv] at HL
    have HX := hide hx
    have HF := hide (fun W : World => rFirst 2 (by decide) W)
    have HF : Hid (∀ W : World, Calls Tryd.prog 53 #[.int .i64 2] W fun e u' => e = .returned (.int .i64 17) ∧ u' = W) := HF
    clear h hv hx hn
    generalize (n : Int) = x at *
    go_enter Tryd.func26, Tryd.ntmps26
    go_wp2_with (first
      | (go_at_call 24; refine (unhide HL).mono ?_; rintro e W1 ⟨rfl, hw⟩; subst hw)
      | (go_at_call 53; refine (unhide HF _).mono ?_; rintro e W2 ⟨rfl, hw⟩; subst hw)
      | fail)
    go_ret
    exact ⟨by rw [unhide HX]; rfl, rfl⟩
  · have hv : levI n = 3 := by unfold levI; rw [if_neg (by omega), if_neg (by omega), if_neg (by omega), if_pos (by omega)]
    have hx : idxI n = (n : Int) - 273 := by unfold idxI; rw [if_neg (by omega), if_neg (by omega), if_neg (by omega), if_pos (by omega)]
    have h1 : 273 ≤ (n : Int) := by omega
    have h2 : (n : Int) < 4369 := by omega
    rw [hv] at HL
    have HX := hide hx
    have HF := hide (fun W : World => rFirst 3 (by decide) W)
    have HF : Hid (∀ W : World, Calls Tryd.prog 53 #[.int .i64 3] W fun e u' => e = .returned (.int .i64 273) ∧ u' = W) := HF
    clear h hv hx hn
    generalize (n : Int) = x at *
    go_enter Tryd.func26, Tryd.ntmps26
    go_wp2_with (first
      | (go_at_call 24; refine (unhide HL).mono ?_; rintro e W1 ⟨rfl, hw⟩; subst hw)
      | (go_at_call 53; refine (unhide HF _).mono ?_; rintro e W2 ⟨rfl, hw⟩; subst hw)
      | fail)
    go_ret
    exact ⟨by rw [unhide HX]; rfl, rfl⟩
  · have hv : levI n = -1 := by unfold levI; rw [if_neg (by omega), if_neg (by omega), if_neg (by omega), if_neg (by omega)]
    have hx : idxI n = 0 := by unfold idxI; rw [if_neg (by omega), if_neg (by omega), if_neg (by omega), if_neg (by omega)]
    have h1 : 4369 ≤ (n : Int) := by omega
    have h2 : (n : Int) < 65536 := by omega
    rw [hv] at HL
    have HX := hide hx
    clear h hv hx hn
    generalize (n : Int) = x at *
    go_enter Tryd.func26, Tryd.ntmps26
    go_wp2_with (first
      | (go_at_call 24; refine (unhide HL).mono ?_; rintro e W1 ⟨rfl, hw⟩; have HW := hide hw; clear hw)
      | fail)
    go_ret
    exact ⟨by rw [unhide HX]; rfl, unhide HW⟩
theorem wrap_u16 (x : Int) : IntKind.u16.wrap x = x % 65536 := by simp [IntKind.wrap, IntKind.bits, IntKind.signed]
set_option maxRecDepth 100000 in
theorem pParent (n : Nat) (hn : n < 65536) (u : World) (ht : Tab u) : Calls Tryd.prog 19 #[.int .u16 (n : Int)] u fun e u' => e = .returned (.tuple #[.int .u16 (parV n).1, .bool (parV n).2]) ∧ u' = u := by
  have HL := hide (pLevel n hn u ht)
  clear ht
  rcases (by omega : n < 1 ∨ (1 ≤ n ∧ n < 17) ∨ (17 ≤ n ∧ n < 273) ∨ (273 ≤ n ∧ n < 4369) ∨ 4369 ≤ n) with h | h | h | h | h
  · have hv : levI n = 0 := by unfold levI; rw [if_pos (by omega)]
    have hx : idxI n = (n : Int) := by unfold idxI; rw [if_pos (by omega)]
    have h1 : (n : Int) < 1 := by omega
    have h2 : 0 ≤ (n : Int) := by omega
    rw [hv] at HL
    have hp : parV n = (0, false) := by unfold parV; rw [if_neg (by omega)]
    have HX := hide hp
    clear h hv hx hn hp
    generalize (n : Int) = x at *
    go_enter Tryd.func19, Tryd.ntmps19
    go_wp2_with (first
      | (go_at_call 23; refine (unhide HL).mono ?_; rintro e W1 ⟨rfl, hw⟩; have HW := hide hw; clear hw)
      | fail)
    go_ret2
    exact ⟨by rw [unhide HX]; rfl, unhide HW⟩
  · have hv : levI n = 1 := by unfold levI; rw [if_neg (by omega), if_pos (by omega)]
    have hx : idxI n = (n : Int) - 1 := by unfold idxI; rw [if_neg (by omega), if_pos (by omega)]
    have h1 : 1 ≤ (n : Int) := by omega
    have h2 : (n : Int) < 17 := by omega
    rw [hv] at HL
    obtain ⟨q, hq⟩ : ∃ q : Nat, q = (n - 1) / 16 := ⟨_, rfl⟩
    have hp : parV n = ((q : Int), true) := by unfold parV; rw [if_pos (by omega), ← hq]
    have HX := hide hp
    have hs : IntKind.u16.wrap ((n : Int) - 1) = (n : Int) - 1 := by rw [wrap_u16]; omega
    have hd : ((n : Int) - 1) / 16 = (q : Int) := by omega
    have hd2 : ((n : Int) - 1).tdiv 16 = (q : Int) := by rw [Int.tdiv_eq_ediv_of_nonneg (by omega)]; exact hd
    clear h hv hx hn hp hq
    generalize (n : Int) = x at *
    generalize (q : Int) = y at *
    go_enter Tryd.func19, Tryd.ntmps19
    go_wp2_with (first
      | (go_at_call 23; refine (unhide HL).mono ?_; rintro e W1 ⟨rfl, hw⟩; have HW := hide hw; clear hw)
      | fail)
    go_ret2
    exact ⟨by rw [unhide HX]; rfl, unhide HW⟩
  · have hv : levI n = 2 := by unfold levI; rw [if_neg (by omega), if_neg (by omega), if_pos (by omega)]
    have hx : idxI n = (n : Int) - 17 := by unfold idxI; rw [if_neg (by omega), if_neg (by omega), if_pos (by omega)]
    have h1 : 17 ≤ (n : Int) := by omega
    have h2 : (n : Int) < 273 := by omega
    rw [hv] at HL
    obtain ⟨q, hq⟩ : ∃ q : Nat, q = (n - 1) / 16 := ⟨_, rfl⟩
    have hp : parV n = ((q : Int), true) := by unfold parV; rw [if_pos (by omega), ← hq]
    have HX := hide hp
    have hs : IntKind.u16.wrap ((n : Int) - 1) = (n : Int) - 1 := by rw [wrap_u16]; omega
    have hd : ((n : Int) - 1) / 16 = (q : Int) := by omega
    have hd2 : ((n : Int) - 1).tdiv 16 = (q : Int) := by rw [Int.tdiv_eq_ediv_of_nonneg (by omega)]; exact hd
    clear h hv hx hn hp hq
    generalize (n : Int) = x at *
    generalize (q : Int) = y at *
    go_enter Tryd.func19, Tryd.ntmps19
    go_wp2_with (first
      | (go_at_call 23; refine (unhide HL).mono ?_; rintro e W1 ⟨rfl, hw⟩; have HW := hide hw; clear hw)
      | fail)
    go_ret2
    exact ⟨by rw [unhide HX]; rfl, unhide HW⟩
  · have hv : levI n = 3 := by unfold levI; rw [if_neg (by omega), if_neg (by omega), if_neg (by omega), if_pos (by omega)]
    have hx : idxI n = (n : Int) - 273 := by unfold idxI; rw [if_neg (by omega), if_neg (by omega), if_neg (by omega), if_pos (by omega)]
    have h1 : 273 ≤ (n : Int) := by omega
    have h2 : (n : Int) < 4369 := by omega
    rw [hv] at HL
    obtain ⟨q, hq⟩ : ∃ q : Nat, q = (n - 1) / 16 := ⟨_, rfl⟩
    have hp : parV n = ((q : Int), true) := by unfold parV; rw [if_pos (by omega), ← hq]
    have HX := hide hp
    have hs : IntKind.u16.wrap ((n : Int) - 1) = (n : Int) - 1 := by rw [wrap_u16]; omega
    have hd : ((n : Int) - 1) / 16 = (q : Int) := by omega
    have hd2 : ((n : Int) - 1).tdiv 16 = (q : Int) := by rw [Int.tdiv_eq_ediv_of_nonneg (by omega)]; exact hd
    clear h hv hx hn hp hq
    generalize (n : Int) = x at *
    generalize (q : Int) = y at *
    go_enter Tryd.func19, Tryd.ntmps19
    go_wp2_with (first
      | (go_at_call 23; refine (unhide HL).mono ?_; rintro e W1 ⟨rfl, hw⟩; have HW := hide hw; clear hw)
      | fail)
    go_ret2
    exact ⟨by rw [unhide HX]; rfl, unhide HW⟩
  · have hv : levI n = -1 := by unfold levI; rw [if_neg (by omega), if_neg (by omega), if_neg (by omega), if_neg (by omega)]
    have hx : idxI n = 0 := by unfold idxI; rw [if_neg (by omega), if_neg (by omega), if_neg (by omega), if_neg (by omega)]
    have h1 : 4369 ≤ (n : Int) := by omega
    have h2 : (n : Int) < 65536 := by omega
    rw [hv] at HL
    have hp : parV n = (0, false) := by unfold parV; rw [if_neg (by omega)]
    have HX := hide hp
    clear h hv hx hn hp
    generalize (n : Int) = x at *
    go_enter Tryd.func19, Tryd.ntmps19
    go_wp2_with (first
      | (go_at_call 23; refine (unhide HL).mono ?_; rintro e W1 ⟨rfl, hw⟩; have HW := hide hw; clear hw)
      | fail)
    go_ret2
    exact ⟨by rw [unhide HX]; rfl, unhide HW⟩
set_option maxRecDepth 100000 in
theorem rParent (n : Nat) (hn : n < 65536) (u : World) : Calls Tryd.prog 20 #[.int .u16 (n : Int)] u fun e u' => e = .returned (.tuple #[.int .u16 (parV n).1, .bool (parV n).2]) ∧ u' = u := by
  have HL := hide (rLevel n hn u)
  have HI := hide (rIndex n hn u)
  rcases (by omega : n < 1 ∨ (1 ≤ n ∧ n < 17) ∨ (17 ≤ n ∧ n < 273) ∨ (273 ≤ n ∧ n < 4369) ∨ 4369 ≤ n) with h | h | h | h | h
  · have hv : levI n = 0 := by unfold levI; rw [if_pos (by omega)]
    have hx : idxI n = (n : Int) := by unfold idxI; rw [if_pos (by omega)]
    have h1 : (n : Int) < 1 := by omega
    have h2 : 0 ≤ (n : Int) := by omega
    rw [hv] at HL
    have hp : parV n = (0, false) := by unfold parV; rw [if_neg (by omega)]
    have HX := hide hp
    clear HI
    clear h hv hx hn hp
    generalize (n : Int) = x at *
    go_enter Tryd.func20, Tryd.ntmps20
    go_wp2_with (first
      | (go_at_call 24; refine (unhide HL).mono ?_; rintro e W1 ⟨rfl, hw⟩; have HW := hide hw; clear hw)
      | fail)
    go_ret2
    exact ⟨by rw [unhide HX]; rfl, unhide HW⟩
  · have hv : levI n = 1 := by unfold levI; rw [if_neg (by omega), if_pos (by omega)]
    have hx : idxI n = (n : Int) - 1 := by unfold idxI; rw [if_neg (by omega), if_pos (by omega)]
    have h1 : 1 ≤ (n : Int) := by omega
    have h2 : (n : Int) < 17 := by omega
    rw [hv] at HL
    rw [hx] at HI
    obtain ⟨q, hq⟩ : ∃ q : Nat, q = (n - 1) / 16 := ⟨_, rfl⟩
    have hp : parV n = ((q : Int), true) := by unfold parV; rw [if_pos (by omega), ← hq]
    have HX := hide hp
    have HF := hide (fun W : World => rFirst 0 (by decide) W)
    have HF : Hid (∀ W : World, Calls Tryd.prog 53 #[.int .i64 0] W fun e u' => e = .returned (.int .i64 0) ∧ u' = W) := HF
    obtain ⟨r, hr⟩ : ∃ r : Nat, r = (n - 1) / 16 := ⟨_, rfl⟩
    have hd : ((n : Int) - 1) / 16 = (r : Int) := by omega
    have hd2 : ((n : Int) - 1).tdiv 16 = (r : Int) := by rw [Int.tdiv_eq_ediv_of_nonneg (by omega)]; exact hd
    have hy : 0 + (r : Int) = (q : Int) := by omega
    have hyb : 0 ≤ (r : Int) ∧ (r : Int) ≤ 256 := by omega
    have hqb : 0 ≤ (q : Int) ∧ (q : Int) ≤ 4369 := by omega
    have hqw : IntKind.u16.wrap (q : Int) = (q : Int) := by rw [wrap_u16]; omega
    clear h hv hx hn hp hq hr
    generalize (n : Int) = x at *
    generalize (q : Int) = y at *
    generalize (r : Int) = z at *
    go_enter Tryd.func20, Tryd.ntmps20
    go_wp2_with (first
      | (go_at_call 24; refine (unhide HL).mono ?_; rintro e W1 ⟨rfl, hw⟩; subst hw)
      | (go_at_call 53; refine (unhide HF _).mono ?_; rintro e W2 ⟨rfl, hw⟩; subst hw)
      | (go_at_call 26; refine (unhide HI).mono ?_; rintro e W3 ⟨rfl, hw⟩; subst hw)
      | fail)
    go_ret2
    exact ⟨by rw [unhide HX]; rfl, rfl⟩
  · have hv : levI n = 2 := by unfold levI; rw [if_neg (by omega), if_neg (by omega), if_pos (by omega)]
    have hx : idxI n = (n : Int) - 17 := by unfold idxI; rw [if_neg (by omega), if_neg (by omega), if_pos (by omega)]
    have h1 : 17 ≤ (n : Int) := by omega
    have h2 : (n : Int) < 273 := by omega
    rw [hv] at HL
    rw [hx] at HI
    obtain ⟨q, hq⟩ : ∃ q : Nat, q = (n - 1) / 16 := ⟨_, rfl⟩
    have hp : parV n = ((q : Int), true) := by unfold parV; rw [if_pos (by omega), ← hq]
    have HX := hide hp
    have HF := hide (fun W : World => rFirst 1 (by decide) W)
    have HF : Hid (∀ W : World, Calls Tryd.prog 53 #[.int .i64 1] W fun e u' => e = .returned (.int .i64 1) ∧ u' = W) := HF
    obtain ⟨r, hr⟩ : ∃ r : Nat, r = (n - 17) / 16 := ⟨_, rfl⟩
    have hd : ((n : Int) - 17) / 16 = (r : Int) := by omega
    have hd2 : ((n : Int) - 17).tdiv 16 = (r : Int) := by rw [Int.tdiv_eq_ediv_of_nonneg (by omega)]; exact hd
    have hy : 1 + (r : Int) = (q : Int) := by omega
    have hyb : 0 ≤ (r : Int) ∧ (r : Int) ≤ 256 := by omega
    have hqb : 0 ≤ (q : Int) ∧ (q : Int) ≤ 4369 := by omega
    have hqw : IntKind.u16.wrap (q : Int) = (q : Int) := by rw [wrap_u16]; omega
    clear h hv hx hn hp hq hr
    generalize (n : Int) = x at *
    generalize (q : Int) = y at *
    generalize (r : Int) = z at *
    go_enter Tryd.func20, Tryd.ntmps20
    go_wp2_with (first
      | (go_at_call 24; refine (unhide HL).mono ?_; rintro e W1 ⟨rfl, hw⟩; subst hw)
      | (go_at_call 53; refine (unhide HF _).mono ?_; rintro e W2 ⟨rfl, hw⟩; subst hw)
      | (go_at_call 26; refine (unhide HI).mono ?_; rintro e W3 ⟨rfl, hw⟩; subst hw)
      | fail)
    go_ret2
    exact ⟨by rw [unhide HX]; rfl, rfl⟩
  · have hv : levI n = 3 := by unfold levI; rw [if_neg (by omega), if_neg (by omega), if_neg (by omega), if_pos (by omega)]
    have hx : idxI n = (n : Int) - 273 := by unfold idxI; rw [if_neg (by omega), if_neg (by omega), if_neg (by omega), if_pos (by omega)]
    have h1 : 273 ≤ (n : Int) := by omega
    have h2 : (n : Int) < 4369 := by omega
    rw [hv] at HL
    rw [hx] at HI
    obtain ⟨q, hq⟩ : ∃ q : Nat, q = (n - 1) / 16 := ⟨_, rfl⟩
    have hp : parV n = ((q : Int), true) := by unfold parV; rw [if_pos (by omega), ← hq]
    have HX := hide hp
    have HF := hide (fun W : World => rFirst 2 (by decide) W)
    have HF : Hid (∀ W : World, Calls Tryd.prog 53 #[.int .i64 2] W fun e u' => e = .returned (.int .i64 17) ∧ u' = W) := HF
    obtain ⟨r, hr⟩ : ∃ r : Nat, r = (n - 273) / 16 := ⟨_, rfl⟩
    have hd : ((n : Int) - 273) / 16 = (r : Int) := by omega
    have hd2 : ((n : Int) - 273).tdiv 16 = (r : Int) := by rw [Int.tdiv_eq_ediv_of_nonneg (by omega)]; exact hd
    have hy : 17 + (r : Int) = (q : Int) := by omega
    have hyb : 0 ≤ (r : Int) ∧ (r : Int) ≤ 256 := by omega
    have hqb : 0 ≤ (q : Int) ∧ (q : Int) ≤ 4369 := by omega
    have hqw : IntKind.u16.wrap (q : Int) = (q : Int) := by rw [wrap_u16]; omega
    clear h hv hx hn hp hq hr
    generalize (n : Int) = x at *
    generalize (q : Int) = y at *
    generalize (r : Int) = z at *
    go_enter Tryd.func20, Tryd.ntmps20
    go_wp2_with (first
      | (go_at_call 24; refine (unhide HL).mono ?_; rintro e W1 ⟨rfl, hw⟩; subst hw)
      | (go_at_call 53; refine (unhide HF _).mono ?_; rintro e W2 ⟨rfl, hw⟩; subst hw)
      | (go_at_call 26; refine (unhide HI).mono ?_; rintro e W3 ⟨rfl, hw⟩; subst hw)
      | fail)
    go_ret2
    exact ⟨by rw [unhide HX]; rfl, rfl⟩
  · have hv : levI n = -1 := by unfold levI; rw [if_neg (by omega), if_neg (by omega), if_neg (by omega), if_neg (by omega)]
    have hx : idxI n = 0 := by unfold idxI; rw [if_neg (by omega), if_neg (by omega), if_neg (by omega), if_neg (by omega)]
    have h1 : 4369 ≤ (n : Int) := by omega
    have h2 : (n : Int) < 65536 := by omega
    rw [hv] at HL
    have hp : parV n = (0, false) := by unfold parV; rw [if_neg (by omega)]
    have HX := hide hp
    clear HI
    clear h hv hx hn hp
    generalize (n : Int) = x at *
    go_enter Tryd.func20, Tryd.ntmps20
    go_wp2_with (first
      | (go_at_call 24; refine (unhide HL).mono ?_; rintro e W1 ⟨rfl, hw⟩; have HW := hide hw; clear hw)
      | fail)
    go_ret2
    exact ⟨by rw [unhide HX]; rfl, unhide HW⟩
end Go.Proofs.YtbahlfpcbplofaaDoor.T
