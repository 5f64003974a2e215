/- Trees: the numbers of nodes, of the program and of the document. Written by mktaa.py. -/
import Derived.Test.YtbahlfpcbplofaaDoorSga
namespace Go.Proofs.YtbahlfpcbplofaaDoor.T
open Go.RowKit Go.Lib
/-- how many nodes a level has; its first node -/
def wid : Nat → Int
  | 0 => 1 | 1 => 16 | 2 => 256 | 3 => 4096 | _ => 65536
def fst : Nat → Int
  | 0 => 0 | 1 => 1 | 2 => 17 | 3 => 273 | _ => 4369
def levI (n : Nat) : Int := if n < 1 then 0 else if n < 17 then 1 else if n < 273 then 2 else if n < 4369 then 3 else -1
def idxI (n : Nat) : Int := if n < 1 then (n : Int) else if n < 17 then (n : Int) - 1 else if n < 273 then (n : Int) - 17 else if n < 4369 then (n : Int) - 273 else 0
def ndV (lv ix : Int) : Int × Int := if 0 ≤ lv ∧ lv ≤ 3 ∧ 0 ≤ ix ∧ ix < wid lv.toNat then (fst lv.toNat + ix, 0) else (0, 1)
def parV (n : Nat) : Int × Bool := if 1 ≤ n ∧ n < 4369 then (((n - 1) / 16 : Nat), true) else (0, false)
def kidV (n : Nat) (i : Int) : Int × Bool := if n < 273 ∧ 0 ≤ i ∧ i ≤ 15 then (16 * (n : Int) + 1 + i, true) else (0, false)
/-- the program's table of first nodes -/
def Tab (w : World) : Prop := ∀ i, i < 5 → w.cell? ⟨0, i, none⟩ = some (.int .i64 (fst i))
theorem Tab.cells {w : World} (h : Tab w) : w.cell? ⟨0, 0, none⟩ = some (.int .i64 0) ∧ w.cell? ⟨0, 1, none⟩ = some (.int .i64 1) ∧ w.cell? ⟨0, 2, none⟩ = some (.int .i64 17) ∧ w.cell? ⟨0, 3, none⟩ = some (.int .i64 273) ∧ w.cell? ⟨0, 4, none⟩ = some (.int .i64 4369) :=
  ⟨h 0 (by decide), h 1 (by decide), h 2 (by decide), h 3 (by decide), h 4 (by decide)⟩
theorem Tab.keep {u w : World} (h : Tab u) (hb : Below 1 u w) : Tab w := fun i hi => (hb.cell (p := ⟨0, i, none⟩) (by show 0 < 1; decide)).trans (h i hi)
theorem Tab.size {u : World} (h : Tab u) : 1 ≤ u.heap.size := World.block_lt_of_cell? u _ (h 0 (by decide))
theorem Tab.below {u w : World} (h : Tab u) (hb : Below u.heap.size u w) : Tab w := h.keep (hb.mono h.size)
theorem Tab.drew {u : World} (h : Tab u) (q : Nat) : Tab (u.drewN q) := h.below (belowDrewN (Below.refl _ _) q)
theorem ixF0 (W : World) : (Instr.indexAt 91 (.pointer (some ⟨0, 0, none⟩)) (.int .i64 0)).run Tryd.prog W = .ok (.pointer (some ⟨0, 0, none⟩)) W := by kernel_rfl
theorem ixF1 (W : World) : (Instr.indexAt 91 (.pointer (some ⟨0, 0, none⟩)) (.int .i64 1)).run Tryd.prog W = .ok (.pointer (some ⟨0, 1, none⟩)) W := by kernel_rfl
theorem ixF2 (W : World) : (Instr.indexAt 91 (.pointer (some ⟨0, 0, none⟩)) (.int .i64 2)).run Tryd.prog W = .ok (.pointer (some ⟨0, 2, none⟩)) W := by kernel_rfl
theorem ixF3 (W : World) : (Instr.indexAt 91 (.pointer (some ⟨0, 0, none⟩)) (.int .i64 3)).run Tryd.prog W = .ok (.pointer (some ⟨0, 3, none⟩)) W := by kernel_rfl
theorem ixF4 (W : World) : (Instr.indexAt 91 (.pointer (some ⟨0, 0, none⟩)) (.int .i64 4)).run Tryd.prog W = .ok (.pointer (some ⟨0, 4, none⟩)) W := by kernel_rfl
theorem ixF (k : Nat) (hk : k < 5) (W : World) : (Instr.indexAt 91 (.pointer (some ⟨0, 0, none⟩)) (.int .i64 (k : Int))).run Tryd.prog W = .ok (.pointer (some ⟨0, k, none⟩)) W := by
  rcases (by omega : k = 0 ∨ k = 1 ∨ k = 2 ∨ k = 3 ∨ k = 4) with rfl | rfl | rfl | rfl | rfl
  · exact ixF0 W
  · exact ixF1 W
  · exact ixF2 W
  · exact ixF3 W
  · exact ixF4 W

theorem rWide (l : Nat) (hl : l ≤ 4) (u : World) : Calls Tryd.prog 52 #[.int .i64 (l : Int)] u fun e u' => e = .returned (.int .i64 (wid l)) ∧ u' = u := by
  have HL := hide hl
  have hl4 : (l : Int) ≤ 4 := by omega
  clear hl
  go_enter Tryd.func52, Tryd.ntmps52
  go_wp2
  go_loopw [3, 4] (fun s3 s4 wr => ∃ k : Nat, k ≤ l ∧ s4 = .int .i64 k ∧ s3 = .int .i64 (wid k) ∧ Hid (wr = u)) (fun _ s4 _ => l - (intOf s4).toNat)
  case atStart => exact ⟨0, Nat.zero_le _, rfl, rfl, rfl⟩
  case round =>
    obtain ⟨k, hk, rfl, rfl, HW⟩ := hrel
    by_cases hlt : k < l
    · have hki : (k : Int) < (l : Int) := by omega
      have HN : Hid (wid (k + 1) = 16 * wid k) := by
        have := unhide HL
        rcases (by omega : k = 0 ∨ k = 1 ∨ k = 2 ∨ k = 3) with rfl | rfl | rfl | rfl <;> exact rfl
      obtain ⟨p, hp⟩ : ∃ p, p = wid k := ⟨_, rfl⟩
      have hpb : 0 ≤ p ∧ p ≤ 65536 := by
        have := unhide HL
        rcases (by omega : k = 0 ∨ k = 1 ∨ k = 2 ∨ k = 3) with rfl | rfl | rfl | rfl <;> (subst hp; decide)
      rw [← hp] at HN ⊢
      clear hp
      go_wp2
      go_roundw
      case rel => exact ⟨k + 1, by omega, by go_num, by rw [unhide HN], unhide HW⟩
      case measure => simp [intOf]; omega
    · obtain rfl : k = l := by omega
      have hki : ¬ (k : Int) < (k : Int) := by omega
      go_wp2
      go_ret
      exact ⟨rfl, unhide HW⟩
theorem rFirst (l : Nat) (hl : l ≤ 4) (u : World) : Calls Tryd.prog 53 #[.int .i64 (l : Int)] u fun e u' => e = .returned (.int .i64 (fst l)) ∧ u' = u := by
  have HL := hide hl
  have hl4 : (l : Int) ≤ 4 := by omega
  clear hl
  go_enter Tryd.func53, Tryd.ntmps53
  go_wp2
  go_loopw [3, 4] (fun s3 s4 wr => ∃ k : Nat, k ≤ l ∧ s4 = .int .i64 k ∧ s3 = .int .i64 (fst k) ∧ Hid (wr = u)) (fun _ s4 _ => l - (intOf s4).toNat)
  case atStart => exact ⟨0, Nat.zero_le _, rfl, rfl, rfl⟩
  case round =>
    obtain ⟨k, hk, rfl, rfl, HW⟩ := hrel
    by_cases hlt : k < l
    · have hki : (k : Int) < (l : Int) := by omega
      have HC := hide (rWide k (by have := unhide HL; omega) wr)
      have HN : Hid (fst (k + 1) = fst k + wid k) := by
        have := unhide HL
        rcases (by omega : k = 0 ∨ k = 1 ∨ k = 2 ∨ k = 3) with rfl | rfl | rfl | rfl <;> exact rfl
      obtain ⟨p, hp⟩ : ∃ p, p = fst k := ⟨_, rfl⟩
      obtain ⟨q, hq⟩ : ∃ q, q = wid k := ⟨_, rfl⟩
      have hpb : 0 ≤ p ∧ p ≤ 65536 ∧ 0 ≤ q ∧ q ≤ 65536 := by
        have := unhide HL
        rcases (by omega : k = 0 ∨ k = 1 ∨ k = 2 ∨ k = 3) with rfl | rfl | rfl | rfl <;> (subst hp hq; decide)
      rw [← hp] at HN ⊢
      rw [← hq] at HN HC
      clear hp hq
      go_wp2_with (first
        | (go_at_call 52; refine (unhide HC).mono ?_; rintro e W1 ⟨rfl, hww⟩; have HWW := hide (hww.trans (unhide HW)); clear hww)
        | fail)
      go_wp2
      go_roundw
      case rel => exact ⟨k + 1, by omega, by go_num, by rw [unhide HN], unhide HWW⟩
      case measure => simp [intOf]; omega
    · obtain rfl : k = l := by omega
      have hki : ¬ (k : Int) < (k : Int) := by omega
      go_wp2
      go_ret
      exact ⟨rfl, unhide HW⟩
theorem lev_lt {n k : Nat} (hk : k < 4) (h1 : fst k ≤ (n : Int)) (h2 : (n : Int) < fst (k + 1)) : levI n = (k : Int) := by
  rcases (by omega : k = 0 ∨ k = 1 ∨ k = 2 ∨ k = 3) with rfl | rfl | rfl | rfl <;> (simp only [fst] at h1 h2; unfold levI; repeat (first | rw [if_pos (by omega)] | rw [if_neg (by omega)])) <;> rfl
theorem i8k (k : Nat) (h : k < 5) : IntKind.i8.wrap (k : Int) = (k : Int) := by
  rcases (by omega : k = 0 ∨ k = 1 ∨ k = 2 ∨ k = 3 ∨ k = 4) with rfl | rfl | rfl | rfl | rfl <;> decide
set_option maxRecDepth 100000 in
theorem rLevel (n : Nat) (hn : n < 65536) (u : World) : Calls Tryd.prog 24 #[.int .u16 (n : Int)] u fun e u' => e = .returned (.int .i8 (levI n)) ∧ u' = u := by
  have HF : Hid (∀ (l : Nat), l ≤ 4 → ∀ W : World, Calls Tryd.prog 53 #[.int .i64 (l : Int)] W fun e u' => e = .returned (.int .i64 (fst l)) ∧ u' = W) := fun l hl W => rFirst l hl W
  have hni : (n : Int) < 65536 := by omega
  go_enter Tryd.func24, Tryd.ntmps24
  go_wp2
  go_loopw [3] (fun s3 wr => ∃ k : Nat, k ≤ 4 ∧ s3 = .int .i64 k ∧ Hid (fst k ≤ (n : Int)) ∧ Hid (wr = u)) (fun s3 _ => 4 - (intOf s3).toNat)
  case atStart => exact ⟨0, Nat.zero_le _, rfl, by show (0 : Int) ≤ _; omega, rfl⟩
  case round =>
    obtain ⟨k, hk, rfl, HK, HW⟩ := hrel
    by_cases hlt : k < 4
    · have hki : (k : Int) < 4 := by omega
      have HC := hide (unhide HF (k + 1) (by omega) wr)
      obtain ⟨p, hp⟩ : ∃ p, p = fst (k + 1) := ⟨_, rfl⟩
      rw [← hp] at HC
      have HC : Hid (Calls Tryd.prog 53 #[.int .i64 ((k : Int) + 1)] wr fun e u' => e = .returned (.int .i64 p) ∧ u' = wr) := HC
      have hk8 : IntKind.i8.wrap (k : Int) = (k : Int) := i8k k (by omega)
      by_cases hq : (n : Int) < p
      · have HR : Hid (levI n = (k : Int)) := lev_lt hlt (unhide HK) (by rw [← hp]; exact hq)
        clear hp HF
        go_wp2_with (first
          | (go_at_call 53; refine (unhide HC).mono ?_; rintro e W1 ⟨rfl, hww⟩; have HWW := hide (hww.trans (unhide HW)); clear hww)
          | fail)
        go_ret
        exact ⟨by rw [unhide HR]; rfl, unhide HWW⟩
      · have HR : Hid (fst (k + 1) ≤ (n : Int)) := by rw [← hp]; exact Int.not_lt.1 hq
        clear hp HF
        have hni0 : 0 ≤ (n : Int) := Int.natCast_nonneg n
        clear hn
        generalize (n : Int) = x at *
        go_wp2_with (first
          | (go_at_call 53; refine (unhide HC).mono ?_; rintro e W1 ⟨rfl, hww⟩; have HWW := hide (hww.trans (unhide HW)); clear hww)
          | fail)
        go_wp2
        go_roundw
        case rel => exact ⟨k + 1, by omega, by go_num, unhide HR, unhide HWW⟩
        case measure => simp [intOf]; omega
    · obtain rfl : k = 4 := by omega
      have HR : Hid (levI n = -1) := by
        have h1 : (4369 : Int) ≤ (n : Int) := unhide HK
        show levI n = -1
        unfold levI
        rw [if_neg (by omega), if_neg (by omega), if_neg (by omega), if_neg (by omega)]
      go_wp2
      go_ret
      exact ⟨by rw [unhide HR]; rfl, unhide HW⟩
end Go.Proofs.YtbahlfpcbplofaaDoor.T
