/- What a tally comes to. -/
import Derived.Test.YtpepgealeanecaaGya
namespace Go.Proofs.Ytpepgealeanecaa
open Go.RowKit Go.Lib
/-- the sum of the first replicas' counts -/
def tsm (ta : List Nat) : Nat → Int
  | 0 => 0
  | n + 1 => tsm ta n + ((ta.getD (2 * n) 0 : Nat) - (ta.getD (2 * n + 1) 0 : Nat) : Int)
theorem tsm_bd {ta : List Nat} (hb : ∀ v ∈ ta, v < 65536) (n : Nat) : -(65535 * n : Int) ≤ tsm ta n ∧ tsm ta n ≤ 65535 * n := by
  induction n with
  | zero => simp [tsm]
  | succ n ih =>
    have h1 := getD_bd hb (2 * n)
    have h2 := getD_bd hb (2 * n + 1)
    rw [tsm]
    omega
set_option maxRecDepth 100000 in
set_option maxHeartbeats 8000000 in
theorem kAsTally (ta : List Nat) (hl : ta.length = 10) (hb : ∀ v ∈ ta, v < 65536) (u : World) : Calls Try.prog 22 #[.string (tS (nT ta))] u fun e u' => e = .returned (.tuple #[.int .i32 (tsm ta 5), .int .i64 0]) ∧ Below u.heap.size u u' := by
  have HT : Hid (∀ u : World, Calls Try.prog 50 #[.string (tS (nT ta)), .int .u8 3] u fun z u' => ∃ fa fc, z = .returned (.tuple #[tyV 3 false fa 0 fc ta none 0 0, .int .i64 0]) ∧ Below u.heap.size u u') := fun u => (kAsYes (tS (nT ta)) (nT ta) (takes_n hl hb) u).mono fun z u' hh => by
    obtain ⟨v, h1, fa, fc, ra, rc, n, m, h2, h3, h4, h5, h6, h7, h8, h9⟩ := hh
    obtain ⟨rfl, rfl⟩ := h9 rfl
    obtain rfl : n = 0 := h3
    obtain rfl : m = 0 := h4
    exact ⟨fa, fc, by rw [h1, h2]; rfl, h6⟩
  have HL := hide hl
  have HTS : Hid (∀ n, tsm ta (n + 1) = tsm ta n + ((ta.getD (2 * n) 0 : Nat) - (ta.getD (2 * n + 1) 0 : Nat) : Int)) := fun _ => rfl
  have HT0 : Hid (tsm ta 0 = 0) := rfl
  have HTB : Hid (∀ n : Nat, -(65535 * n : Int) ≤ tsm ta n ∧ tsm ta n ≤ 65535 * n) := tsm_bd hb
  have HGB : Hid (∀ i, ta.getD i 0 < 65536) := getD_bd hb
  have HIX : Hid (∀ i : Nat, i < 5 → ∀ W : World, (Instr.index 75 (.agg (taC ta).toArray) (.int .i64 (i : Int))).run Try.prog W = .ok (.agg #[.int .u16 (ta.getD (2 * i) 0 : Nat), .int .u16 (ta.getD (2 * i + 1) 0 : Nat)]) W) := fun i hi W => ixTa hl hi W
  generalize tS (nT ta) = S0 at *
  generalize tsm ta = ts at *
  clear hl hb
  go_enter Try.func22, Try.ntmps22
  go_wp2_with (first
    | (go_at_call 50; refine (unhide HT u).mono ?_; rintro e W1 ⟨fa, fc, rfl, hb1⟩; have HB1 := hide hb1; clear hb1; obtain ⟨M, hM⟩ : ∃ M, M = W1.heap.size := ⟨_, rfl⟩; have HM := hide hM; clear hM)
    | ((with_reducible refine wpList_alloc_ty (by rfl) (by rfl) (some 4) (by rfl) M (unhide HM) ?_); intro W2 HX2 HB2 HS2; simp only [Act.put, List.setIfInBounds_toArray, List.set_cons_zero, List.set_cons_succ])
    | ((with_reducible refine wpList_store_ty (by rfl) (.tmp 4) (.tmp 12) (by rfl) M 3 false fa 0 fc ta none 0 0 (by with_unfolding_all rfl) (by with_unfolding_all rfl) (unhide HL) (unhide HX2) ?_); intro W3 HX3 HE3 HS3 HO3; simp only [Act.put]; have HB3 : Hid (Below u.heap.size u W3) := (unhide HB1).trans ((unhide HE3 M W1 (Nat.le_refl _) (unhide HB2)).mono (by rw [unhide HM]; exact (unhide HB1).size)))
    | ((with_reducible refine wpList_load_ta (by rfl) (.tmp 14) (by rfl) (some 15) (by rfl) M 3 (by with_unfolding_all rfl) ta (unhide HX3).rng (unhide HL) ?_); simp only [Act.put, List.setIfInBounds_toArray, List.set_cons_zero, List.set_cons_succ])
    | fail)
  clear HX2 HB2 HS2 HX3 HE3 HS3 HO3 HM HB1
  generalize (taC ta).toArray = TA at *
  go_loopw [6, 16] (fun s6 s16 wr => ∃ k : Nat, k ≤ 5 ∧ s16 = .int .i64 k ∧ s6 = .int .i32 (ts k) ∧ Hid (Below u.heap.size u wr)) (fun _ s16 _ => 5 - (intOf s16).toNat)
  case atStart => exact ⟨0, by omega, rfl, by rw [unhide HT0], unhide HB3⟩
  case round =>
    obtain ⟨k, hk, rfl, rfl, HI⟩ := hrel
    by_cases hlt : k < 5
    · have hki : (k : Int) < 5 := by omega
      have hix := unhide HIX k hlt
      have hs1 := unhide HTS k
      have b0 := unhide HTB k
      have b1 := unhide HTB (k + 1)
      have g0 := unhide HGB (2 * k)
      have g1 := unhide HGB (2 * k + 1)
      generalize ta.getD (2 * k) 0 = x at *
      generalize ta.getD (2 * k + 1) 0 = y at *
      have HWF : Hid (wrap32 (ts k + wrap32 (wrap32 (x : Int) - wrap32 (y : Int))) = ts (k + 1)) := by show _ = _; rw [hs1]; simp only [wrap32]; omega
      clear b0 b1 g0 g1 hs1
      obtain ⟨M2, hM2⟩ : ∃ M, M = wr.heap.size := ⟨_, rfl⟩
      have HM2 := hide hM2
      clear hM2
      go_wp2_with (first
        | ((with_reducible refine wpList_alloc_ct (by rfl) (by rfl) (some 8) (by rfl) M2 (unhide HM2) ?_); intro W7 HX7 HB7 HS7; simp only [Act.put, List.setIfInBounds_toArray, List.set_cons_zero, List.set_cons_succ])
        | ((with_reducible refine wpList_store_ct (by rfl) (.tmp 8) (.tmp 18) (by rfl) M2 (x : Int) (y : Int) (by with_unfolding_all rfl) (by with_unfolding_all rfl) (unhide HX7) ?_); intro W8 HX8 HE8; simp only [Act.put]; have HB8 : Hid (Below u.heap.size u W8) := (Below.trans (unhide HI) (by rw [unhide HE8]; exact (belowRow (unhide HB7) (Nat.le_refl _) _).mono (by rw [unhide HM2]; exact (unhide HI).size))); obtain ⟨y0, y1⟩ := ct_cells (unhide HX8))
        | fail)
      exact ⟨⟨k + 1, by omega, by go_num, by rw [unhide HWF], unhide HB8⟩, by simp [intOf]; omega⟩
    · obtain rfl : k = 5 := by omega
      have hki : ¬ (5 : Int) < 5 := by omega
      go_wp2
      go_ret2
      exact ⟨rfl, unhide HI⟩
end Go.Proofs.Ytpepgealeanecaa
