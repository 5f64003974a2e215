/- Trees: Kid, Node of both sides. Written by mktab.py. -/
import Derived.Test.YtbahlfpcbplofaaDoorTab
namespace Go.Proofs.YtbahlfpcbplofaaDoor.T
open Go.RowKit Go.Lib
set_option maxRecDepth 100000 in
theorem pKid (n : Nat) (hn : n < 65536) (i : Int) (u : World) : Calls Tryd.prog 21 #[.int .u16 (n : Int), .int .i64 i] u fun e u' => e = .returned (.tuple #[.int .u16 (kidV n i).1, .bool (kidV n i).2]) ∧ u' = u := by
  have h2 : 0 ≤ (n : Int) := by omega
  by_cases hg : n < 273
  · have hg1 : ¬ (n : Int) ≥ 273 := by omega
    have hg2 : (n : Int) < 273 := by omega
    by_cases hi1 : i < 0
    · have hk : kidV n i = (0, false) := by unfold kidV; rw [if_neg (by omega)]
      have HX := hide hk
      clear hn hk
      generalize (n : Int) = x at *
      go_enter Tryd.func21, Tryd.ntmps21
      go_wp2
      go_ret2
      exact ⟨by rw [unhide HX]; rfl, rfl⟩
    · by_cases hi2 : i > 15
      · have hk : kidV n i = (0, false) := by unfold kidV; rw [if_neg (by omega)]
        have hi3 : i ≥ 16 := by omega
        have HX := hide hk
        clear hn hk
        generalize (n : Int) = x at *
        go_enter Tryd.func21, Tryd.ntmps21
        go_wp2
        go_ret2
        exact ⟨by rw [unhide HX]; rfl, rfl⟩
      · have hi3 : ¬ i ≥ 16 := by omega
        have hi4 : 0 ≤ i := by omega
        have hi5 : i ≤ 15 := by omega
        obtain ⟨y, hy⟩ : ∃ y : Int, y = 16 * (n : Int) + 1 + i := ⟨_, rfl⟩
        have hk : kidV n i = (y, true) := by unfold kidV; rw [if_pos (by omega), hy]
        have hm : IntKind.u16.wrap ((n : Int) * 16) = (n : Int) * 16 := by rw [wrap_u16]; omega
        have ha : IntKind.u16.wrap ((n : Int) * 16 + 1) = (n : Int) * 16 + 1 := by rw [wrap_u16]; omega
        have hi : IntKind.u16.wrap i = i := by rw [wrap_u16]; omega
        have hs : IntKind.u16.wrap ((n : Int) * 16 + 1 + i) = y := by rw [wrap_u16]; omega
        clear hy
        have HX := hide hk
        clear hn hk hg
        generalize (n : Int) = x at *
        go_enter Tryd.func21, Tryd.ntmps21
        go_wp2
        go_ret2
        exact ⟨by rw [unhide HX]; rfl, rfl⟩
  · have hg1 : (n : Int) ≥ 273 := by omega
    have hg2 : (n : Int) < 65536 := by omega
    have hk : kidV n i = (0, false) := by unfold kidV; rw [if_neg (by omega)]
    have HX := hide hk
    clear hn hk
    generalize (n : Int) = x at *
    go_enter Tryd.func21, Tryd.ntmps21
    go_wp2
    go_ret2
    exact ⟨by rw [unhide HX]; rfl, rfl⟩
set_option maxRecDepth 100000 in
theorem rKid (n : Nat) (hn : n < 65536) (i : Int) (u : World) : Calls Tryd.prog 22 #[.int .u16 (n : Int), .int .i64 i] u fun e u' => e = .returned (.tuple #[.int .u16 (kidV n i).1, .bool (kidV n i).2]) ∧ u' = u := by
  have HL := hide (rLevel n hn u)
  have HI := hide (rIndex n hn u)
  rcases (by omega : n < 1 ∨ (1 ≤ n ∧ n < 17) ∨ (17 ≤ n ∧ n < 273) ∨ (273 ≤ n ∧ n < 4369) ∨ 4369 ≤ n) with h | h | h | h | h
  · have hv : levI n = 0 := by unfold levI; rw [if_pos (by omega)]
    have hx : idxI n = (n : Int) := by unfold idxI; rw [if_pos (by omega)]
    have h1 : (n : Int) < 1 := by omega
    have h2 : 0 ≤ (n : Int) := by omega
    rw [hv] at HL
    rw [hx] at HI
    by_cases hi1 : i < 0
    · have hk : kidV n i = (0, false) := by unfold kidV; rw [if_neg (by omega)]
      have HX := hide hk
      clear h hv hx hn hk
      generalize (n : Int) = x at *
      go_enter Tryd.func22, Tryd.ntmps22
      go_wp2_with (first
        | (go_at_call 24; refine (unhide HL).mono ?_; rintro e W1 ⟨rfl, hw⟩; subst hw)
        | (go_at_call 53; refine (unhide HF _).mono ?_; rintro e W2 ⟨rfl, hw⟩; subst hw)
        | (go_at_call 26; refine (unhide HI).mono ?_; rintro e W3 ⟨rfl, hw⟩; subst hw)
        | fail)
      go_ret2
      exact ⟨by rw [unhide HX]; rfl, rfl⟩
    · by_cases hi2 : i > 15
      · have hk : kidV n i = (0, false) := by unfold kidV; rw [if_neg (by omega)]
        have hi3 : i ≥ 16 := by omega
        have HX := hide hk
        clear h hv hx hn hk
        generalize (n : Int) = x at *
        go_enter Tryd.func22, Tryd.ntmps22
        go_wp2_with (first
          | (go_at_call 24; refine (unhide HL).mono ?_; rintro e W1 ⟨rfl, hw⟩; subst hw)
          | (go_at_call 53; refine (unhide HF _).mono ?_; rintro e W2 ⟨rfl, hw⟩; subst hw)
          | (go_at_call 26; refine (unhide HI).mono ?_; rintro e W3 ⟨rfl, hw⟩; subst hw)
          | fail)
        go_ret2
        exact ⟨by rw [unhide HX]; rfl, rfl⟩
      · have hi3 : ¬ i ≥ 16 := by omega
        have hi4 : 0 ≤ i := by omega
        have hi5 : i ≤ 15 := by omega
        obtain ⟨y, hy⟩ : ∃ y : Int, y = 16 * (n : Int) + 1 + i := ⟨_, rfl⟩
        have hk : kidV n i = (y, true) := by unfold kidV; rw [if_pos (by omega), hy]
        have HF := hide (fun W : World => rFirst 1 (by decide) W)
        have HF : Hid (∀ W : World, Calls Tryd.prog 53 #[.int .i64 1] W fun e u' => e = .returned (.int .i64 1) ∧ u' = W) := HF
        have hmu : 16 * (n : Int) = y - 1 - i := by omega
        have hms : 1 + (y - 1 - i) = y - i := by omega
        have hme : y - i + i = y := by omega
        have hyb : 0 ≤ y ∧ y ≤ 4369 := by omega
        have hyw : IntKind.u16.wrap y = y := by rw [wrap_u16]; omega
        have HX := hide hk
        clear h hv hx hn hk hy
        generalize (n : Int) = x at *
        go_enter Tryd.func22, Tryd.ntmps22
        go_wp2_with (first
          | (go_at_call 24; refine (unhide HL).mono ?_; rintro e W1 ⟨rfl, hw⟩; subst hw)
          | (go_at_call 53; refine (unhide HF _).mono ?_; rintro e W2 ⟨rfl, hw⟩; subst hw)
          | (go_at_call 26; refine (unhide HI).mono ?_; rintro e W3 ⟨rfl, hw⟩; subst hw)
          | fail)
        go_ret2
        exact ⟨by rw [unhide HX]; rfl, rfl⟩
  · have hv : levI n = 1 := by unfold levI; rw [if_neg (by omega), if_pos (by omega)]
    have hx : idxI n = (n : Int) - 1 := by unfold idxI; rw [if_neg (by omega), if_pos (by omega)]
    have h1 : 1 ≤ (n : Int) := by omega
    have h2 : (n : Int) < 17 := by omega
    rw [hv] at HL
    rw [hx] at HI
    by_cases hi1 : i < 0
    · have hk : kidV n i = (0, false) := by unfold kidV; rw [if_neg (by omega)]
      have HX := hide hk
      clear h hv hx hn hk
      generalize (n : Int) = x at *
      go_enter Tryd.func22, Tryd.ntmps22
      go_wp2_with (first
        | (go_at_call 24; refine (unhide HL).mono ?_; rintro e W1 ⟨rfl, hw⟩; subst hw)
        | (go_at_call 53; refine (unhide HF _).mono ?_; rintro e W2 ⟨rfl, hw⟩; subst hw)
        | (go_at_call 26; refine (unhide HI).mono ?_; rintro e W3 ⟨rfl, hw⟩; subst hw)
        | fail)
      go_ret2
      exact ⟨by rw [unhide HX]; rfl, rfl⟩
    · by_cases hi2 : i > 15
      · have hk : kidV n i = (0, false) := by unfold kidV; rw [if_neg (by omega)]
        have hi3 : i ≥ 16 := by omega
        have HX := hide hk
        clear h hv hx hn hk
        generalize (n : Int) = x at *
        go_enter Tryd.func22, Tryd.ntmps22
        go_wp2_with (first
          | (go_at_call 24; refine (unhide HL).mono ?_; rintro e W1 ⟨rfl, hw⟩; subst hw)
          | (go_at_call 53; refine (unhide HF _).mono ?_; rintro e W2 ⟨rfl, hw⟩; subst hw)
          | (go_at_call 26; refine (unhide HI).mono ?_; rintro e W3 ⟨rfl, hw⟩; subst hw)
          | fail)
        go_ret2
        exact ⟨by rw [unhide HX]; rfl, rfl⟩
      · have hi3 : ¬ i ≥ 16 := by omega
        have hi4 : 0 ≤ i := by omega
        have hi5 : i ≤ 15 := by omega
        obtain ⟨y, hy⟩ : ∃ y : Int, y = 16 * (n : Int) + 1 + i := ⟨_, rfl⟩
        have hk : kidV n i = (y, true) := by unfold kidV; rw [if_pos (by omega), hy]
        have HF := hide (fun W : World => rFirst 2 (by decide) W)
        have HF : Hid (∀ W : World, Calls Tryd.prog 53 #[.int .i64 2] W fun e u' => e = .returned (.int .i64 17) ∧ u' = W) := HF
        have hmu : 16 * ((n : Int) - 1) = y - 17 - i := by omega
        have hms : 17 + (y - 17 - i) = y - i := by omega
        have hme : y - i + i = y := by omega
        have hyb : 0 ≤ y ∧ y ≤ 4369 := by omega
        have hyw : IntKind.u16.wrap y = y := by rw [wrap_u16]; omega
        have HX := hide hk
        clear h hv hx hn hk hy
        generalize (n : Int) = x at *
        go_enter Tryd.func22, Tryd.ntmps22
        go_wp2_with (first
          | (go_at_call 24; refine (unhide HL).mono ?_; rintro e W1 ⟨rfl, hw⟩; subst hw)
          | (go_at_call 53; refine (unhide HF _).mono ?_; rintro e W2 ⟨rfl, hw⟩; subst hw)
          | (go_at_call 26; refine (unhide HI).mono ?_; rintro e W3 ⟨rfl, hw⟩; subst hw)
          | fail)
        go_ret2
        exact ⟨by rw [unhide HX]; rfl, rfl⟩
  · have hv : levI n = 2 := by unfold levI; rw [if_neg (by omega), if_neg (by omega), if_pos (by omega)]
    have hx : idxI n = (n : Int) - 17 := by unfold idxI; rw [if_neg (by omega), if_neg (by omega), if_pos (by omega)]
    have h1 : 17 ≤ (n : Int) := by omega
    have h2 : (n : Int) < 273 := by omega
    rw [hv] at HL
    rw [hx] at HI
    by_cases hi1 : i < 0
    · have hk : kidV n i = (0, false) := by unfold kidV; rw [if_neg (by omega)]
      have HX := hide hk
      clear h hv hx hn hk
      generalize (n : Int) = x at *
      go_enter Tryd.func22, Tryd.ntmps22
      go_wp2_with (first
        | (go_at_call 24; refine (unhide HL).mono ?_; rintro e W1 ⟨rfl, hw⟩; subst hw)
        | (go_at_call 53; refine (unhide HF _).mono ?_; rintro e W2 ⟨rfl, hw⟩; subst hw)
        | (go_at_call 26; refine (unhide HI).mono ?_; rintro e W3 ⟨rfl, hw⟩; subst hw)
        | fail)
      go_ret2
      exact ⟨by rw [unhide HX]; rfl, rfl⟩
    · by_cases hi2 : i > 15
      · have hk : kidV n i = (0, false) := by unfold kidV; rw [if_neg (by omega)]
        have hi3 : i ≥ 16 := by omega
        have HX := hide hk
        clear h hv hx hn hk
        generalize (n : Int) = x at *
        go_enter Tryd.func22, Tryd.ntmps22
        go_wp2_with (first
          | (go_at_call 24; refine (unhide HL).mono ?_; rintro e W1 ⟨rfl, hw⟩; subst hw)
          | (go_at_call 53; refine (unhide HF _).mono ?_; rintro e W2 ⟨rfl, hw⟩; subst hw)
          | (go_at_call 26; refine (unhide HI).mono ?_; rintro e W3 ⟨rfl, hw⟩; subst hw)
          | fail)
        go_ret2
        exact ⟨by rw [unhide HX]; rfl, rfl⟩
      · have hi3 : ¬ i ≥ 16 := by omega
        have hi4 : 0 ≤ i := by omega
        have hi5 : i ≤ 15 := by omega
        obtain ⟨y, hy⟩ : ∃ y : Int, y = 16 * (n : Int) + 1 + i := ⟨_, rfl⟩
        have hk : kidV n i = (y, true) := by unfold kidV; rw [if_pos (by omega), hy]
        have HF := hide (fun W : World => rFirst 3 (by decide) W)
        have HF : Hid (∀ W : World, Calls Tryd.prog 53 #[.int .i64 3] W fun e u' => e = .returned (.int .i64 273) ∧ u' = W) := HF
        have hmu : 16 * ((n : Int) - 17) = y - 273 - i := by omega
        have hms : 273 + (y - 273 - i) = y - i := by omega
        have hme : y - i + i = y := by omega
        have hyb : 0 ≤ y ∧ y ≤ 4369 := by omega
        have hyw : IntKind.u16.wrap y = y := by rw [wrap_u16]; omega
        have HX := hide hk
        clear h hv hx hn hk hy
        generalize (n : Int) = x at *
        go_enter Tryd.func22, Tryd.ntmps22
        go_wp2_with (first
          | (go_at_call 24; refine (unhide HL).mono ?_; rintro e W1 ⟨rfl, hw⟩; subst hw)
          | (go_at_call 53; refine (unhide HF _).mono ?_; rintro e W2 ⟨rfl, hw⟩; subst hw)
          | (go_at_call 26; refine (unhide HI).mono ?_; rintro e W3 ⟨rfl, hw⟩; subst hw)
          | fail)
        go_ret2
        exact ⟨by rw [unhide HX]; rfl, rfl⟩
  · have hv : levI n = 3 := by unfold levI; rw [if_neg (by omega), if_neg (by omega), if_neg (by omega), if_pos (by omega)]
    have hx : idxI n = (n : Int) - 273 := by unfold idxI; rw [if_neg (by omega), if_neg (by omega), if_neg (by omega), if_pos (by omega)]
    have h1 : 273 ≤ (n : Int) := by omega
    have h2 : (n : Int) < 4369 := by omega
    rw [hv] at HL
    have hk : kidV n i = (0, false) := by unfold kidV; rw [if_neg (by omega)]
    have HX := hide hk
    clear h hv hx hn hk
    generalize (n : Int) = x at *
    go_enter Tryd.func22, Tryd.ntmps22
    go_wp2_with (first
      | (go_at_call 24; refine (unhide HL).mono ?_; rintro e W1 ⟨rfl, hw⟩; subst hw)
      | (go_at_call 53; refine (unhide HF _).mono ?_; rintro e W2 ⟨rfl, hw⟩; subst hw)
      | (go_at_call 26; refine (unhide HI).mono ?_; rintro e W3 ⟨rfl, hw⟩; subst hw)
      | fail)
    go_ret2
    exact ⟨by rw [unhide HX]; rfl, rfl⟩
  · have hv : levI n = -1 := by unfold levI; rw [if_neg (by omega), if_neg (by omega), if_neg (by omega), if_neg (by omega)]
    have hx : idxI n = 0 := by unfold idxI; rw [if_neg (by omega), if_neg (by omega), if_neg (by omega), if_neg (by omega)]
    have h1 : 4369 ≤ (n : Int) := by omega
    have h2 : (n : Int) < 65536 := by omega
    rw [hv] at HL
    have hk : kidV n i = (0, false) := by unfold kidV; rw [if_neg (by omega)]
    have HX := hide hk
    clear h hv hx hn hk
    generalize (n : Int) = x at *
    go_enter Tryd.func22, Tryd.ntmps22
    go_wp2_with (first
      | (go_at_call 24; refine (unhide HL).mono ?_; rintro e W1 ⟨rfl, hw⟩; subst hw)
      | (go_at_call 53; refine (unhide HF _).mono ?_; rintro e W2 ⟨rfl, hw⟩; subst hw)
      | (go_at_call 26; refine (unhide HI).mono ?_; rintro e W3 ⟨rfl, hw⟩; subst hw)
      | fail)
    go_ret2
    exact ⟨by rw [unhide HX]; rfl, rfl⟩
set_option maxRecDepth 100000 in
set_option maxHeartbeats 4000000 in
theorem pNode (lv ix : Int) (u : World) (ht : Tab u) : Calls Tryd.prog 17 #[.int .i64 lv, .int .i64 ix] u fun e u' => e = .returned (.tuple #[.int .u16 (ndV lv ix).1, .int .i64 (ndV lv ix).2]) ∧ Below u.heap.size u u' := by
  have HT := hide ht
  obtain ⟨c0, c1, c2, c3, c4⟩ := ht.cells
  clear ht
  by_cases hl1 : lv < 0
  · have hk : ndV lv ix = (0, 1) := by unfold ndV; rw [if_neg (by omega)]
    have HX := hide hk
    clear hk
    go_enter Tryd.func17, Tryd.ntmps17
    go_wp2
    go_ret2
    exact ⟨by rw [unhide HX]; rfl, Below.refl _ _⟩
  · by_cases hl2 : lv > 3
    · have hk : ndV lv ix = (0, 1) := by unfold ndV; rw [if_neg (by omega)]
      have HX := hide hk
      clear hk
      go_enter Tryd.func17, Tryd.ntmps17
      go_wp2
      go_ret2
      exact ⟨by rw [unhide HX]; rfl, Below.refl _ _⟩
    · rcases (by omega : lv = 0 ∨ lv = 1 ∨ lv = 2 ∨ lv = 3) with rfl | rfl | rfl | rfl
      · have he : ∀ z, ndV 0 z = if 0 ≤ z ∧ z < 1 then (0 + z, 0) else (0, 1) := fun z => by
          unfold ndV
          by_cases h : 0 ≤ z ∧ z < 1
          · rw [if_pos h, if_pos ⟨by decide, by decide, h.1, h.2⟩]; rfl
          · rw [if_neg h, if_neg fun hh => h ⟨hh.2.2.1, hh.2.2.2⟩]
        clear hl1 hl2
        by_cases hi1 : ix < 0
        · have hk : ndV 0 ix = (0, 1) := by rw [he, if_neg (by omega)]
          clear he
          have HX := hide hk
          clear hk
          have hixa := ixF0
          have hixb := ixF1
          have hwa : IntKind.i64.wrap 1 = 1 := by decide
          have hwb : IntKind.i64.wrap 1 = 1 := by decide
          go_enter Tryd.func17, Tryd.ntmps17
          go_wp2_with fail
          go_quiet (fail)
          skip
          go_wp2
          go_ret2
          exact ⟨by rw [unhide HX]; rfl, belowDrewN (Below.refl _ _) _⟩
        · by_cases hi2 : ix ≥ 1
          · have hk : ndV 0 ix = (0, 1) := by rw [he, if_neg (by omega)]
            clear he
            have HX := hide hk
            clear hk
            have hixa := ixF0
            have hixb := ixF1
            have hwa : IntKind.i64.wrap 1 = 1 := by decide
            have hwb : IntKind.i64.wrap 1 = 1 := by decide
            go_enter Tryd.func17, Tryd.ntmps17
            go_wp2_with fail
            go_quiet (fail)
            skip
            go_wp2
            go_ret2
            exact ⟨by rw [unhide HX]; rfl, belowDrewN (Below.refl _ _) _⟩
          · have hk : ndV 0 ix = (ix, 0) := by rw [he, if_pos (by omega)]; rw [Int.zero_add]
            have hi3 : 0 ≤ ix := by omega
            have hi4 : ix < 1 := by omega
            have hi5 : IntKind.u16.wrap (ix) = ix := by rw [wrap_u16]; omega
            clear he
            have HX := hide hk
            clear hk
            have hixa := ixF0
            have hixb := ixF1
            have hwa : IntKind.i64.wrap 1 = 1 := by decide
            have hwb : IntKind.i64.wrap 1 = 1 := by decide
            go_enter Tryd.func17, Tryd.ntmps17
            go_wp2_with fail
            go_quiet (fail)
            obtain ⟨d0, d1, d2, d3, d4⟩ := ((unhide HT).drew 1).cells
            go_wp2
            go_ret2
            exact ⟨by rw [unhide HX]; rfl, belowDrewN (Below.refl _ _) _⟩
      · have he : ∀ z, ndV 1 z = if 0 ≤ z ∧ z < 16 then (1 + z, 0) else (0, 1) := fun z => by
          unfold ndV
          by_cases h : 0 ≤ z ∧ z < 16
          · rw [if_pos h, if_pos ⟨by decide, by decide, h.1, h.2⟩]; rfl
          · rw [if_neg h, if_neg fun hh => h ⟨hh.2.2.1, hh.2.2.2⟩]
        clear hl1 hl2
        by_cases hi1 : ix < 0
        · have hk : ndV 1 ix = (0, 1) := by rw [he, if_neg (by omega)]
          clear he
          have HX := hide hk
          clear hk
          have hixa := ixF1
          have hixb := ixF2
          have hwa : IntKind.i64.wrap 2 = 2 := by decide
          have hwb : IntKind.i64.wrap 16 = 16 := by decide
          go_enter Tryd.func17, Tryd.ntmps17
          go_wp2_with fail
          go_quiet (fail)
          skip
          go_wp2
          go_ret2
          exact ⟨by rw [unhide HX]; rfl, belowDrewN (Below.refl _ _) _⟩
        · by_cases hi2 : ix ≥ 16
          · have hk : ndV 1 ix = (0, 1) := by rw [he, if_neg (by omega)]
            clear he
            have HX := hide hk
            clear hk
            have hixa := ixF1
            have hixb := ixF2
            have hwa : IntKind.i64.wrap 2 = 2 := by decide
            have hwb : IntKind.i64.wrap 16 = 16 := by decide
            go_enter Tryd.func17, Tryd.ntmps17
            go_wp2_with fail
            go_quiet (fail)
            skip
            go_wp2
            go_ret2
            exact ⟨by rw [unhide HX]; rfl, belowDrewN (Below.refl _ _) _⟩
          · have hk : ndV 1 ix = (1 + ix, 0) := by rw [he, if_pos (by omega)]
            have hi3 : 0 ≤ ix := by omega
            have hi4 : ix < 16 := by omega
            have hi5 : IntKind.u16.wrap (1 + ix) = 1 + ix := by rw [wrap_u16]; omega
            clear he
            have HX := hide hk
            clear hk
            have hixa := ixF1
            have hixb := ixF2
            have hwa : IntKind.i64.wrap 2 = 2 := by decide
            have hwb : IntKind.i64.wrap 16 = 16 := by decide
            go_enter Tryd.func17, Tryd.ntmps17
            go_wp2_with fail
            go_quiet (fail)
            obtain ⟨d0, d1, d2, d3, d4⟩ := ((unhide HT).drew 1).cells
            go_wp2
            go_ret2
            exact ⟨by rw [unhide HX]; rfl, belowDrewN (Below.refl _ _) _⟩
      · have he : ∀ z, ndV 2 z = if 0 ≤ z ∧ z < 256 then (17 + z, 0) else (0, 1) := fun z => by
          unfold ndV
          by_cases h : 0 ≤ z ∧ z < 256
          · rw [if_pos h, if_pos ⟨by decide, by decide, h.1, h.2⟩]; rfl
          · rw [if_neg h, if_neg fun hh => h ⟨hh.2.2.1, hh.2.2.2⟩]
        clear hl1 hl2
        by_cases hi1 : ix < 0
        · have hk : ndV 2 ix = (0, 1) := by rw [he, if_neg (by omega)]
          clear he
          have HX := hide hk
          clear hk
          have hixa := ixF2
          have hixb := ixF3
          have hwa : IntKind.i64.wrap 3 = 3 := by decide
          have hwb : IntKind.i64.wrap 256 = 256 := by decide
          go_enter Tryd.func17, Tryd.ntmps17
          go_wp2_with fail
          go_quiet (fail)
          skip
          go_wp2
          go_ret2
          exact ⟨by rw [unhide HX]; rfl, belowDrewN (Below.refl _ _) _⟩
        · by_cases hi2 : ix ≥ 256
          · have hk : ndV 2 ix = (0, 1) := by rw [he, if_neg (by omega)]
            clear he
            have HX := hide hk
            clear hk
            have hixa := ixF2
            have hixb := ixF3
            have hwa : IntKind.i64.wrap 3 = 3 := by decide
            have hwb : IntKind.i64.wrap 256 = 256 := by decide
            go_enter Tryd.func17, Tryd.ntmps17
            go_wp2_with fail
            go_quiet (fail)
            skip
            go_wp2
            go_ret2
            exact ⟨by rw [unhide HX]; rfl, belowDrewN (Below.refl _ _) _⟩
          · have hk : ndV 2 ix = (17 + ix, 0) := by rw [he, if_pos (by omega)]
            have hi3 : 0 ≤ ix := by omega
            have hi4 : ix < 256 := by omega
            have hi5 : IntKind.u16.wrap (17 + ix) = 17 + ix := by rw [wrap_u16]; omega
            clear he
            have HX := hide hk
            clear hk
            have hixa := ixF2
            have hixb := ixF3
            have hwa : IntKind.i64.wrap 3 = 3 := by decide
            have hwb : IntKind.i64.wrap 256 = 256 := by decide
            go_enter Tryd.func17, Tryd.ntmps17
            go_wp2_with fail
            go_quiet (fail)
            obtain ⟨d0, d1, d2, d3, d4⟩ := ((unhide HT).drew 1).cells
            go_wp2
            go_ret2
            exact ⟨by rw [unhide HX]; rfl, belowDrewN (Below.refl _ _) _⟩
      · have he : ∀ z, ndV 3 z = if 0 ≤ z ∧ z < 4096 then (273 + z, 0) else (0, 1) := fun z => by
          unfold ndV
          by_cases h : 0 ≤ z ∧ z < 4096
          · rw [if_pos h, if_pos ⟨by decide, by decide, h.1, h.2⟩]; rfl
          · rw [if_neg h, if_neg fun hh => h ⟨hh.2.2.1, hh.2.2.2⟩]
        clear hl1 hl2
        by_cases hi1 : ix < 0
        · have hk : ndV 3 ix = (0, 1) := by rw [he, if_neg (by omega)]
          clear he
          have HX := hide hk
          clear hk
          have hixa := ixF3
          have hixb := ixF4
          have hwa : IntKind.i64.wrap 4 = 4 := by decide
          have hwb : IntKind.i64.wrap 4096 = 4096 := by decide
          go_enter Tryd.func17, Tryd.ntmps17
          go_wp2_with fail
          go_quiet (fail)
          skip
          go_wp2
          go_ret2
          exact ⟨by rw [unhide HX]; rfl, belowDrewN (Below.refl _ _) _⟩
        · by_cases hi2 : ix ≥ 4096
          · have hk : ndV 3 ix = (0, 1) := by rw [he, if_neg (by omega)]
            clear he
            have HX := hide hk
            clear hk
            have hixa := ixF3
            have hixb := ixF4
            have hwa : IntKind.i64.wrap 4 = 4 := by decide
            have hwb : IntKind.i64.wrap 4096 = 4096 := by decide
            go_enter Tryd.func17, Tryd.ntmps17
            go_wp2_with fail
            go_quiet (fail)
            skip
            go_wp2
            go_ret2
            exact ⟨by rw [unhide HX]; rfl, belowDrewN (Below.refl _ _) _⟩
          · have hk : ndV 3 ix = (273 + ix, 0) := by rw [he, if_pos (by omega)]
            have hi3 : 0 ≤ ix := by omega
            have hi4 : ix < 4096 := by omega
            have hi5 : IntKind.u16.wrap (273 + ix) = 273 + ix := by rw [wrap_u16]; omega
            clear he
            have HX := hide hk
            clear hk
            have hixa := ixF3
            have hixb := ixF4
            have hwa : IntKind.i64.wrap 4 = 4 := by decide
            have hwb : IntKind.i64.wrap 4096 = 4096 := by decide
            go_enter Tryd.func17, Tryd.ntmps17
            go_wp2_with fail
            go_quiet (fail)
            obtain ⟨d0, d1, d2, d3, d4⟩ := ((unhide HT).drew 1).cells
            go_wp2
            go_ret2
            exact ⟨by rw [unhide HX]; rfl, belowDrewN (Below.refl _ _) _⟩
set_option maxRecDepth 100000 in
theorem rNode (lv ix : Int) (u : World) : Calls Tryd.prog 18 #[.int .i64 lv, .int .i64 ix] u fun e u' => e = .returned (.tuple #[.int .u16 (ndV lv ix).1, .int .i64 (ndV lv ix).2]) ∧ u' = u := by
  by_cases hl1 : lv < 0
  · have hk : ndV lv ix = (0, 1) := by unfold ndV; rw [if_neg (by omega)]
    have HX := hide hk
    clear hk
    go_enter Tryd.func18, Tryd.ntmps18
    go_wp2
    go_ret2
    exact ⟨by rw [unhide HX]; rfl, rfl⟩
  · by_cases hl2 : lv > 3
    · have hk : ndV lv ix = (0, 1) := by unfold ndV; rw [if_neg (by omega)]
      have HX := hide hk
      clear hk
      go_enter Tryd.func18, Tryd.ntmps18
      go_wp2
      go_ret2
      exact ⟨by rw [unhide HX]; rfl, rfl⟩
    · rcases (by omega : lv = 0 ∨ lv = 1 ∨ lv = 2 ∨ lv = 3) with rfl | rfl | rfl | rfl
      · have he : ∀ z, ndV 0 z = if 0 ≤ z ∧ z < 1 then (0 + z, 0) else (0, 1) := fun z => by
          unfold ndV
          by_cases h : 0 ≤ z ∧ z < 1
          · rw [if_pos h, if_pos ⟨by decide, by decide, h.1, h.2⟩]; rfl
          · rw [if_neg h, if_neg fun hh => h ⟨hh.2.2.1, hh.2.2.2⟩]
        clear hl1 hl2
        by_cases hi1 : ix < 0
        · have hk : ndV 0 ix = (0, 1) := by rw [he, if_neg (by omega)]
          clear he
          have HX := hide hk
          clear hk
          have HW : Hid (∀ W : World, Calls Tryd.prog 52 #[.int .i64 0] W fun e u' => e = .returned (.int .i64 1) ∧ u' = W) := fun W : World => rWide 0 (by decide) W
          have HF : Hid (∀ W : World, Calls Tryd.prog 53 #[.int .i64 0] W fun e u' => e = .returned (.int .i64 0) ∧ u' = W) := fun W : World => rFirst 0 (by decide) W
          go_enter Tryd.func18, Tryd.ntmps18
          go_wp2_with (first
            | (go_at_call 52; refine (unhide HW _).mono ?_; rintro e W2 ⟨rfl, hw⟩; subst hw)
            | (go_at_call 53; refine (unhide HF _).mono ?_; rintro e W2 ⟨rfl, hw⟩; subst hw)
            | fail)
          go_ret2
          exact ⟨by rw [unhide HX]; rfl, rfl⟩
        · by_cases hi2 : ix ≥ 1
          · have hk : ndV 0 ix = (0, 1) := by rw [he, if_neg (by omega)]
            clear he
            have HX := hide hk
            clear hk
            have HW : Hid (∀ W : World, Calls Tryd.prog 52 #[.int .i64 0] W fun e u' => e = .returned (.int .i64 1) ∧ u' = W) := fun W : World => rWide 0 (by decide) W
            have HF : Hid (∀ W : World, Calls Tryd.prog 53 #[.int .i64 0] W fun e u' => e = .returned (.int .i64 0) ∧ u' = W) := fun W : World => rFirst 0 (by decide) W
            go_enter Tryd.func18, Tryd.ntmps18
            go_wp2_with (first
              | (go_at_call 52; refine (unhide HW _).mono ?_; rintro e W2 ⟨rfl, hw⟩; subst hw)
              | (go_at_call 53; refine (unhide HF _).mono ?_; rintro e W2 ⟨rfl, hw⟩; subst hw)
              | fail)
            go_ret2
            exact ⟨by rw [unhide HX]; rfl, rfl⟩
          · have hk : ndV 0 ix = (ix, 0) := by rw [he, if_pos (by omega)]; rw [Int.zero_add]
            have hi3 : 0 ≤ ix := by omega
            have hi4 : ix < 1 := by omega
            have hi5 : IntKind.u16.wrap (ix) = ix := by rw [wrap_u16]; omega
            clear he
            have HX := hide hk
            clear hk
            have HW : Hid (∀ W : World, Calls Tryd.prog 52 #[.int .i64 0] W fun e u' => e = .returned (.int .i64 1) ∧ u' = W) := fun W : World => rWide 0 (by decide) W
            have HF : Hid (∀ W : World, Calls Tryd.prog 53 #[.int .i64 0] W fun e u' => e = .returned (.int .i64 0) ∧ u' = W) := fun W : World => rFirst 0 (by decide) W
            go_enter Tryd.func18, Tryd.ntmps18
            go_wp2_with (first
              | (go_at_call 52; refine (unhide HW _).mono ?_; rintro e W2 ⟨rfl, hw⟩; subst hw)
              | (go_at_call 53; refine (unhide HF _).mono ?_; rintro e W2 ⟨rfl, hw⟩; subst hw)
              | fail)
            go_ret2
            exact ⟨by rw [unhide HX]; rfl, rfl⟩
      · have he : ∀ z, ndV 1 z = if 0 ≤ z ∧ z < 16 then (1 + z, 0) else (0, 1) := fun z => by
          unfold ndV
          by_cases h : 0 ≤ z ∧ z < 16
          · rw [if_pos h, if_pos ⟨by decide, by decide, h.1, h.2⟩]; rfl
          · rw [if_neg h, if_neg fun hh => h ⟨hh.2.2.1, hh.2.2.2⟩]
        clear hl1 hl2
        by_cases hi1 : ix < 0
        · have hk : ndV 1 ix = (0, 1) := by rw [he, if_neg (by omega)]
          clear he
          have HX := hide hk
          clear hk
          have HW : Hid (∀ W : World, Calls Tryd.prog 52 #[.int .i64 1] W fun e u' => e = .returned (.int .i64 16) ∧ u' = W) := fun W : World => rWide 1 (by decide) W
          have HF : Hid (∀ W : World, Calls Tryd.prog 53 #[.int .i64 1] W fun e u' => e = .returned (.int .i64 1) ∧ u' = W) := fun W : World => rFirst 1 (by decide) W
          go_enter Tryd.func18, Tryd.ntmps18
          go_wp2_with (first
            | (go_at_call 52; refine (unhide HW _).mono ?_; rintro e W2 ⟨rfl, hw⟩; subst hw)
            | (go_at_call 53; refine (unhide HF _).mono ?_; rintro e W2 ⟨rfl, hw⟩; subst hw)
            | fail)
          go_ret2
          exact ⟨by rw [unhide HX]; rfl, rfl⟩
        · by_cases hi2 : ix ≥ 16
          · have hk : ndV 1 ix = (0, 1) := by rw [he, if_neg (by omega)]
            clear he
            have HX := hide hk
            clear hk
            have HW : Hid (∀ W : World, Calls Tryd.prog 52 #[.int .i64 1] W fun e u' => e = .returned (.int .i64 16) ∧ u' = W) := fun W : World => rWide 1 (by decide) W
            have HF : Hid (∀ W : World, Calls Tryd.prog 53 #[.int .i64 1] W fun e u' => e = .returned (.int .i64 1) ∧ u' = W) := fun W : World => rFirst 1 (by decide) W
            go_enter Tryd.func18, Tryd.ntmps18
            go_wp2_with (first
              | (go_at_call 52; refine (unhide HW _).mono ?_; rintro e W2 ⟨rfl, hw⟩; subst hw)
              | (go_at_call 53; refine (unhide HF _).mono ?_; rintro e W2 ⟨rfl, hw⟩; subst hw)
              | fail)
            go_ret2
            exact ⟨by rw [unhide HX]; rfl, rfl⟩
          · have hk : ndV 1 ix = (1 + ix, 0) := by rw [he, if_pos (by omega)]
            have hi3 : 0 ≤ ix := by omega
            have hi4 : ix < 16 := by omega
            have hi5 : IntKind.u16.wrap (1 + ix) = 1 + ix := by rw [wrap_u16]; omega
            clear he
            have HX := hide hk
            clear hk
            have HW : Hid (∀ W : World, Calls Tryd.prog 52 #[.int .i64 1] W fun e u' => e = .returned (.int .i64 16) ∧ u' = W) := fun W : World => rWide 1 (by decide) W
            have HF : Hid (∀ W : World, Calls Tryd.prog 53 #[.int .i64 1] W fun e u' => e = .returned (.int .i64 1) ∧ u' = W) := fun W : World => rFirst 1 (by decide) W
            go_enter Tryd.func18, Tryd.ntmps18
            go_wp2_with (first
              | (go_at_call 52; refine (unhide HW _).mono ?_; rintro e W2 ⟨rfl, hw⟩; subst hw)
              | (go_at_call 53; refine (unhide HF _).mono ?_; rintro e W2 ⟨rfl, hw⟩; subst hw)
              | fail)
            go_ret2
            exact ⟨by rw [unhide HX]; rfl, rfl⟩
      · have he : ∀ z, ndV 2 z = if 0 ≤ z ∧ z < 256 then (17 + z, 0) else (0, 1) := fun z => by
          unfold ndV
          by_cases h : 0 ≤ z ∧ z < 256
          · rw [if_pos h, if_pos ⟨by decide, by decide, h.1, h.2⟩]; rfl
          · rw [if_neg h, if_neg fun hh => h ⟨hh.2.2.1, hh.2.2.2⟩]
        clear hl1 hl2
        by_cases hi1 : ix < 0
        · have hk : ndV 2 ix = (0, 1) := by rw [he, if_neg (by omega)]
          clear he
          have HX := hide hk
          clear hk
          have HW : Hid (∀ W : World, Calls Tryd.prog 52 #[.int .i64 2] W fun e u' => e = .returned (.int .i64 256) ∧ u' = W) := fun W : World => rWide 2 (by decide) W
          have HF : Hid (∀ W : World, Calls Tryd.prog 53 #[.int .i64 2] W fun e u' => e = .returned (.int .i64 17) ∧ u' = W) := fun W : World => rFirst 2 (by decide) W
          go_enter Tryd.func18, Tryd.ntmps18
          go_wp2_with (first
            | (go_at_call 52; refine (unhide HW _).mono ?_; rintro e W2 ⟨rfl, hw⟩; subst hw)
            | (go_at_call 53; refine (unhide HF _).mono ?_; rintro e W2 ⟨rfl, hw⟩; subst hw)
            | fail)
          go_ret2
          exact ⟨by rw [unhide HX]; rfl, rfl⟩
        · by_cases hi2 : ix ≥ 256
          · have hk : ndV 2 ix = (0, 1) := by rw [he, if_neg (by omega)]
            clear he
            have HX := hide hk
            clear hk
            have HW : Hid (∀ W : World, Calls Tryd.prog 52 #[.int .i64 2] W fun e u' => e = .returned (.int .i64 256) ∧ u' = W) := fun W : World => rWide 2 (by decide) W
            have HF : Hid (∀ W : World, Calls Tryd.prog 53 #[.int .i64 2] W fun e u' => e = .returned (.int .i64 17) ∧ u' = W) := fun W : World => rFirst 2 (by decide) W
            go_enter Tryd.func18, Tryd.ntmps18
            go_wp2_with (first
              | (go_at_call 52; refine (unhide HW _).mono ?_; rintro e W2 ⟨rfl, hw⟩; subst hw)
              | (go_at_call 53; refine (unhide HF _).mono ?_; rintro e W2 ⟨rfl, hw⟩; subst hw)
              | fail)
            go_ret2
            exact ⟨by rw [unhide HX]; rfl, rfl⟩
          · have hk : ndV 2 ix = (17 + ix, 0) := by rw [he, if_pos (by omega)]
            have hi3 : 0 ≤ ix := by omega
            have hi4 : ix < 256 := by omega
            have hi5 : IntKind.u16.wrap (17 + ix) = 17 + ix := by rw [wrap_u16]; omega
            clear he
            have HX := hide hk
            clear hk
            have HW : Hid (∀ W : World, Calls Tryd.prog 52 #[.int .i64 2] W fun e u' => e = .returned (.int .i64 256) ∧ u' = W) := fun W : World => rWide 2 (by decide) W
            have HF : Hid (∀ W : World, Calls Tryd.prog 53 #[.int .i64 2] W fun e u' => e = .returned (.int .i64 17) ∧ u' = W) := fun W : World => rFirst 2 (by decide) W
            go_enter Tryd.func18, Tryd.ntmps18
            go_wp2_with (first
              | (go_at_call 52; refine (unhide HW _).mono ?_; rintro e W2 ⟨rfl, hw⟩; subst hw)
              | (go_at_call 53; refine (unhide HF _).mono ?_; rintro e W2 ⟨rfl, hw⟩; subst hw)
              | fail)
            go_ret2
            exact ⟨by rw [unhide HX]; rfl, rfl⟩
      · have he : ∀ z, ndV 3 z = if 0 ≤ z ∧ z < 4096 then (273 + z, 0) else (0, 1) := fun z => by
          unfold ndV
          by_cases h : 0 ≤ z ∧ z < 4096
          · rw [if_pos h, if_pos ⟨by decide, by decide, h.1, h.2⟩]; rfl
          · rw [if_neg h, if_neg fun hh => h ⟨hh.2.2.1, hh.2.2.2⟩]
        clear hl1 hl2
        by_cases hi1 : ix < 0
        · have hk : ndV 3 ix = (0, 1) := by rw [he, if_neg (by omega)]
          clear he
          have HX := hide hk
          clear hk
          have HW : Hid (∀ W : World, Calls Tryd.prog 52 #[.int .i64 3] W fun e u' => e = .returned (.int .i64 4096) ∧ u' = W) := fun W : World => rWide 3 (by decide) W
          have HF : Hid (∀ W : World, Calls Tryd.prog 53 #[.int .i64 3] W fun e u' => e = .returned (.int .i64 273) ∧ u' = W) := fun W : World => rFirst 3 (by decide) W
          go_enter Tryd.func18, Tryd.ntmps18
          go_wp2_with (first
            | (go_at_call 52; refine (unhide HW _).mono ?_; rintro e W2 ⟨rfl, hw⟩; subst hw)
            | (go_at_call 53; refine (unhide HF _).mono ?_; rintro e W2 ⟨rfl, hw⟩; subst hw)
            | fail)
          go_ret2
          exact ⟨by rw [unhide HX]; rfl, rfl⟩
        · by_cases hi2 : ix ≥ 4096
          · have hk : ndV 3 ix = (0, 1) := by rw [he, if_neg (by omega)]
            clear he
            have HX := hide hk
            clear hk
            have HW : Hid (∀ W : World, Calls Tryd.prog 52 #[.int .i64 3] W fun e u' => e = .returned (.int .i64 4096) ∧ u' = W) := fun W : World => rWide 3 (by decide) W
            have HF : Hid (∀ W : World, Calls Tryd.prog 53 #[.int .i64 3] W fun e u' => e = .returned (.int .i64 273) ∧ u' = W) := fun W : World => rFirst 3 (by decide) W
            go_enter Tryd.func18, Tryd.ntmps18
            go_wp2_with (first
              | (go_at_call 52; refine (unhide HW _).mono ?_; rintro e W2 ⟨rfl, hw⟩; subst hw)
              | (go_at_call 53; refine (unhide HF _).mono ?_; rintro e W2 ⟨rfl, hw⟩; subst hw)
              | fail)
            go_ret2
            exact ⟨by rw [unhide HX]; rfl, rfl⟩
          · have hk : ndV 3 ix = (273 + ix, 0) := by rw [he, if_pos (by omega)]
            have hi3 : 0 ≤ ix := by omega
            have hi4 : ix < 4096 := by omega
            have hi5 : IntKind.u16.wrap (273 + ix) = 273 + ix := by rw [wrap_u16]; omega
            clear he
            have HX := hide hk
            clear hk
            have HW : Hid (∀ W : World, Calls Tryd.prog 52 #[.int .i64 3] W fun e u' => e = .returned (.int .i64 4096) ∧ u' = W) := fun W : World => rWide 3 (by decide) W
            have HF : Hid (∀ W : World, Calls Tryd.prog 53 #[.int .i64 3] W fun e u' => e = .returned (.int .i64 273) ∧ u' = W) := fun W : World => rFirst 3 (by decide) W
            go_enter Tryd.func18, Tryd.ntmps18
            go_wp2_with (first
              | (go_at_call 52; refine (unhide HW _).mono ?_; rintro e W2 ⟨rfl, hw⟩; subst hw)
              | (go_at_call 53; refine (unhide HF _).mono ?_; rintro e W2 ⟨rfl, hw⟩; subst hw)
              | fail)
            go_ret2
            exact ⟨by rw [unhide HX]; rfl, rfl⟩
end Go.Proofs.YtbahlfpcbplofaaDoor.T
