/- A set of these numbers. -/
import Derived.Test.YtinfmomhbegfhaaDoorBm
import Derived.Test.YtinfmomhbegfhaaDoorOpenI
namespace Go.Proofs.YtinfmomhbegfhaaDoor
open Go.RowKit

theorem belowDrew {B : Nat} {a w : World} (h : Below B a w) : Below B a w.drew := ⟨h.os, h.tape, h.output, h.size, h.block⟩
/-- these numbers, brought below n, in a set -/
def setOf (n : Nat) (xs : List Int) : Nat := xs.foldl (fun S x => if n = 0 then S else S ||| 2 ^ (x % (n : Int)).toNat) 0
theorem setOf_snoc (n : Nat) (xs : List Int) (x : Int) : setOf n (xs ++ [x]) = if n = 0 then setOf n xs else setOf n xs ||| 2 ^ (x % (n : Int)).toNat := by simp [setOf, List.foldl_append]
theorem setOf_step (n : Nat) (xs : List Int) (k : Nat) (hk : k < xs.length) : setOf n (xs.take (k + 1)) = if n = 0 then setOf n (xs.take k) else setOf n (xs.take k) ||| 2 ^ (xs[k] % (n : Int)).toNat := by
  rw [List.take_succ_eq_append_getElem hk, setOf_snoc]
set_option maxRecDepth 100000 in
theorem lOf (x : Int) (xs : List Int) (ao : Option Addr) (cap : Nat) (w : World) (hl : xs.length ≤ 9223372036854775807) (hx : LiesI w ao xs) :
    Calls Tryd.prog 22 #[.int .i64 x, .slice ao xs.length cap] w fun e w' => ∃ p q, e = .returned (.pointer (some ⟨p, 0, none⟩)) ∧ w.heap.size ≤ p ∧ w.heap.size ≤ q ∧ Bm w' p q (x % 2001).toNat (setOf (x % 2001).toNat xs) ∧ Below w.heap.size w w' := by
  obtain ⟨n, hn⟩ : ∃ n, n = (x % 2001).toNat := ⟨_, rfl⟩
  have hn2 : n < 2001 := by omega
  have HB := hide (fun u => lBound x u)
  rw [← hn] at HB ⊢
  have HX := hide hx
  clear hx hn
  go_enter Tryd.func22, Tryd.ntmps22
  go_wp2_with (first | (go_at_call 27; refine (unhide HB _).mono ?_; rintro e w1 ⟨rfl, hw1⟩; obtain rfl := hw1.symm; clear hw1) | (go_at_call 28; refine (bNew n (by omega) _).mono ?_; rintro e w1 ⟨p, q, rfl, hp, hq, hm, hb⟩; have HP := hide hp; have HQ := hide hq; have HM := hide hm; have HW := hide hb; clear hp hq hm hb))
  go_loopw [7] (fun i wr => ∃ k : Nat, k ≤ xs.length ∧ i = .int .i64 k ∧ Hid (Bm wr p q n (setOf n (xs.take k)) ∧ Below w.heap.size w wr)) (fun i _ => xs.length - (intOf i).toNat)
  case atStart => exact ⟨0, Nat.zero_le _, rfl, hide ⟨unhide HM, unhide HW⟩⟩
  case round =>
    clear HM HW
    obtain ⟨k, hk, rfl, HI⟩ := hrel
    by_cases hlt : k < xs.length
    · obtain ⟨g, o, rfl, hg, hcells⟩ := unhide HX (by omega)
      have hc : wr.cell? ⟨g, o + k, none⟩ = some (.int .i64 xs[k]) := ((unhide HI).2.cell (p := ⟨g, o + k, none⟩) hg).trans (hcells k hlt)
      have HS := hide (setOf_step n xs k hlt)
      have hki : (k : Int) < (xs.length : Int) := by omega
      generalize xs[k] = y at *
      clear hcells
      have HM0 := hide (unhide HI).1
      have HB0 := hide (unhide HI).2
      clear HI
      by_cases h0 : n = 0
      · subst h0
        have HS' : Hid (setOf 0 (xs.take (k + 1)) = setOf 0 (xs.take k)) := by
          show _ = _
          rw [unhide HS, if_pos rfl]
        have HLn := hide (fun c => bLen ((unhide HM0).drewN c))
        go_wp2
        go_quiet ((go_at_call 11; exact Calls.quiet_of_same (unhide HLn _)))
        go_wp2
        refine ⟨?_, ?measure⟩
        case measure => simp [intOf]; omega
        (repeat apply Exists.intro)
        refine ⟨?rel, rfl⟩
        case rel => exact ⟨k + 1, by omega, by go_num, hide ⟨by rw [unhide HS']; exact (unhide HM0).drewN _, belowDrewN (unhide HB0) _⟩⟩
      · obtain ⟨z, hz⟩ : ∃ z : Nat, y % (n : Int) = (z : Int) := ⟨(y % (n : Int)).toNat, (Int.toNat_of_nonneg (Int.emod_nonneg y (by omega))).symm⟩
        have hzn : z < n := by have := Int.emod_lt_of_pos y (b := (n : Int)) (by omega); omega
        have HS' : Hid (setOf n (xs.take (k + 1)) = setOf n (xs.take k) ||| 2 ^ z) := by
          show _ = _
          rw [unhide HS, if_neg h0, hz, Int.toNat_natCast]
        have HBl := hide (fun u => lBelow y n (by omega) (by omega) u)
        rw [hz] at HBl
        have hgq : g ≠ q := by have := unhide HQ; omega
        have hpos : decide (0 < n) = true := decide_eq_true (by omega)
        clear hz
        go_wp2
        go_region_held3 (fun u => u.cell? ⟨g, o + k, none⟩ = some (.int .i64 y)) (first | exact hc | exact hc1 | (go_keep; done)) (first | (go_at_call 11; refine (bLen (by first | exact unhide HM0 | exact (unhide HM0).drew)).mono ?_; rintro e w1 ⟨rfl, hw1⟩; obtain rfl := hw1.symm; clear hw1) | (go_at_call 31; refine (unhide HBl _).mono ?_; rintro e w1 ⟨rfl, hw1⟩; obtain rfl := hw1.symm; clear hw1) | (go_at_call 24; refine (bPut (p := p) (q := q) (n := n) (S := setOf n (xs.take k)) (by first | exact unhide HM0 | exact (unhide HM0).drew) z hzn).mono ?_; rintro e w1 ⟨rfl, hm1, hu1⟩; have hc1 : w1.cell? ⟨g, o + k, none⟩ = some (.int .i64 y) := (World.cell?_of_block (a := ⟨g, o + k, none⟩) (hu1.block g (World.block_lt_of_cell? _ _ (by first | exact hc | simpa using hc)) hgq)).trans (by first | exact hc | simpa using hc); have HM1 := hide hm1; have HU1 := hide hu1; clear hm1 hu1))
        go_wp2
        go_roundw
        case measure => simp [intOf]; omega
        case rel => exact ⟨k + 1, by omega, by go_num, hide ⟨by rw [unhide HS']; exact unhide HM1, (belowDrew (unhide HB0)).trans ((unhide HU1).toBelow (unhide HB0).size (unhide HQ))⟩⟩
    · have hkk : k = xs.length := by omega
      rw [hkk, List.take_length] at HI
      go_wp2
      go_ret
      exact ⟨p, q, rfl, unhide HP, unhide HQ, unhide HI⟩
end Go.Proofs.YtinfmomhbegfhaaDoor
