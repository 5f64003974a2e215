/- Fill. -/
import Derived.Test.YtinfmomhbegfhaaDoorBg
import Derived.Test.YtinfmomhbegfhaaDoorBo
namespace Go.Proofs.YtinfmomhbegfhaaDoor
open Go.RowKit

set_option maxRecDepth 100000 in
set_option maxHeartbeats 1000000 in
theorem bFill {p q n S : Nat} {w : World} (h : Bm w p q n S) (f b : Nat) (hf : f ≤ b) (hb : b ≤ n) : Calls Tryd.prog 32 #[.pointer (some ⟨p, 0, none⟩), .int .i64 (f : Int), .int .i64 (b : Int)] w fun e w' => e = .returned (.int .i64 0) ∧ Bm w' p q n (S ||| Bit.span f b) ∧ U1 w w' q := by
  have h0 := h.c0
  obtain ⟨cap, h1⟩ := h.c1
  have HH := hide h
  have hle := h.le
  obtain ⟨m, hm⟩ : ∃ m, m = (n + 63) / 64 := ⟨_, rfl⟩
  have hm2 : m ≤ 1024 := by omega
  rw [← hm] at h1
  have HM := hide hm
  have c1 : ¬ (f : Int) < 0 := by omega
  have c2 : ¬ (b : Int) < (f : Int) := by omega
  have c3 : ¬ (n : Int) < (b : Int) := by omega
  have HP1 : Hid (∀ u, U1 w u q → u.cell? ⟨p, 1, none⟩ = some (.slice (some ⟨q, 0, none⟩) m cap)) := fun u hu => (World.cell?_of_block (a := ⟨p, 1, none⟩) (hu.block p h.plt h.bq.ne)).trans h1
  clear h hm
  go_enter Tryd.func32, Tryd.ntmps32
  go_wp2
  go_loopw [31] (fun i wr => ∃ k : Nat, k ≤ m ∧ i = .int .i64 k ∧ Hid (Bq wr p q n (Bit.fillK S f b k) ∧ U1 w wr q)) (fun i _ => m - (intOf i).toNat)
  case atStart => exact ⟨0, Nat.zero_le _, rfl, hide ⟨by rw [Bit.fillK_zero]; exact (unhide HH).bq, U1.refl _ _⟩⟩
  case round =>
    obtain ⟨k, hk, rfl, HI⟩ := hrel
    by_cases hlt : k < m
    · have g1 := unhide HP1 wr (unhide HI).2
      have g2 := (unhide HI).1.w k (by rw [← unhide HM]; exact hlt)
      have g3 := (unhide HI).1.fz k
      have hki : (k : Int) < (m : Int) := by omega
      have HLb := hide (fun u => bLowest ((b : Int) - (k : Int) * 64) (min (b - 64 * k) 64) (by omega) u)
      have HLf := hide (fun u => bLowest ((f : Int) - (k : Int) * 64) (min (f - 64 * k) 64) (by omega) u)
      have hW := Bit.word_lt (Bit.fillK S f b k) k
      have low : ∀ c, c ≤ 64 → 2 ^ c - 1 < 18446744073709551616 := fun c hc => by
        have : 2 ^ c ≤ 2 ^ 64 := Nat.pow_le_pow_right (by decide) hc
        have : (2 : Nat) ^ 64 = 18446744073709551616 := rfl
        omega
      have hB := low (min (b - 64 * k) 64) (Nat.min_le_right _ _)
      have hF := low (min (f - 64 * k) 64) (Nat.min_le_right _ _)
      have HN := hide ((unhide HI).1.lay (T := Bit.fillK S f b (k + 1)) (k := k) (Bit.fillK_word S f b k hf).symm (fun i hi => Bit.fillK_other S f b k i hf hi))
      have HU := hide (fun v => (unhide HI).2.set k v)
      generalize Bit.word (Bit.fillK S f b k) k = W at *
      generalize 2 ^ min (b - 64 * k) 64 - 1 = X at *
      generalize 2 ^ min (f - 64 * k) 64 - 1 = Y at *
      have han := u64_andNot_nat X Y hB hF
      have hor := u64_or_nat W (X &&& (18446744073709551615 - Y)) hW (Nat.lt_of_le_of_lt Nat.and_le_left hB)
      generalize X &&& (18446744073709551615 - Y) = Z at *
      generalize W ||| Z = V at *
      have hbn : b ≤ 65536 := by omega
      have hwb := wrap_small ((b : Int) - (k : Int) * 64) (by omega) (by omega)
      have hwf := wrap_small ((f : Int) - (k : Int) * 64) (by omega) (by omega)
      clear HI hW hB hF low hbn
      go_wp2
      go_region_with (first | (go_at_call 51; with_reducible refine (unhide HLb _).mono ?_; rintro e w1 ⟨rfl, hw1⟩; obtain rfl := hw1.symm; clear hw1) | (go_at_call 51; with_reducible refine (unhide HLf _).mono ?_; rintro e w1 ⟨rfl, hw1⟩; obtain rfl := hw1.symm; clear hw1))
      all_goals (go_wp2; go_roundw; (case rel => exact ⟨k + 1, by omega, by go_num, hide ⟨(unhide HN).drew, (unhide HU _).drew⟩⟩); (case measure => simp [intOf]; omega))
    · have hkk : k = m := by omega
      subst hkk
      have HF : Hid (Bit.fillK S f b k = S ||| Bit.span f b) := Bit.fillK_all S f b k hf (by have := unhide HM; omega)
      have HT : Hid (S ||| Bit.span f b < 2 ^ n) := Nat.or_lt_two_pow (unhide HH).lt (Nat.lt_of_lt_of_le (Bit.span_lt f b hf) (Nat.pow_le_pow_right (by decide) hb))
      go_wp2
      go_ret
      exact ⟨rfl, ⟨by rw [← unhide HF]; exact (unhide HI).1, unhide HT⟩, (unhide HI).2⟩
end Go.Proofs.YtinfmomhbegfhaaDoor
