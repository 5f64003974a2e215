/- The document's reader: digits, and the number that they are. -/
import Derived.Test.YtpjepndeppckdaaMRdU
namespace Go.Proofs.Ytpjepndeppckdaa
open Go.RowKit Go.Lib

theorem dl_less (s : ByteArray) (j k : Nat) (h : j < s.size) (hk : k < 10) (hd : s[j].toNat < 128) : dl (s.data.toList.drop j) k = k + 1 := by
  rw [drop_cons s j h, dl, if_neg (by omega), if_pos hd]
theorem dl_more (s : ByteArray) (j k : Nat) (h : j < s.size) (hk : k < 10) (hd : 128 ≤ s[j].toNat) : dl (s.data.toList.drop j) k = dl (s.data.toList.drop (j + 1)) (k + 1) := by
  rw [drop_cons s j h, dl, if_neg (by omega), if_neg (by omega)]
theorem dl_end (s : ByteArray) (j k : Nat) (h : s.size ≤ j ∨ 10 ≤ k) : dl (s.data.toList.drop j) k = k := by
  rcases h with h | h
  · rw [List.drop_eq_nil_of_le (by rw [size_toList]; exact h)]; rfl
  · cases s.data.toList.drop j with
    | nil => rfl
    | cons d l => rw [dl, if_pos h]
set_option maxRecDepth 100000 in
set_option maxHeartbeats 800000 in
theorem mDigits (a : Nat) (s : ByteArray) (p : Nat) (e : Int) (w : World) (h : Rd w a s p e) :
    Calls Try.prog 63 #[.pointer (some ⟨a, 0, none⟩)] w fun y w' => y = .returned (.string (s.extract p (p + dl (s.data.toList.drop p) 0))) ∧ ∃ n, w' = w.drewN n := by
  obtain ⟨h1, h2, h3, c0, c1, c2, f1, f2⟩ := h
  clear c2 f1 f2
  go_enter Try.func63, Try.ntmps63
  go_wp2
  go_loopw [3] (fun i wr => ∃ k c : Nat, p + k ≤ s.size ∧ k ≤ 10 ∧ i = .int .i64 k ∧ wr = w.drewN c ∧ Hid (dl (s.data.toList.drop (p + k)) k = dl (s.data.toList.drop p) 0)) (fun i _ => 10 - (intOf i).toNat)
  case atStart => exact ⟨0, 0, by omega, by omega, rfl, rfl, rfl⟩
  case round =>
    obtain ⟨k, c, hk, hk', rfl, rfl, HD⟩ := hrel
    by_cases hlt : k < 10
    · have hkd : decide ((k : Int) < 10) = true := by rw [decide_eq_true_eq]; omega
      obtain ⟨j, hj⟩ : ∃ j, j = p + k := ⟨_, rfl⟩
      have hw1 : IntKind.i64.wrap (IntKind.i64.wrap ((p : Int) + (k + 1)) - 1) = (j : Int) := by
        simp only [IntKind.wrap_i64]; omega
      rw [← hj] at HD
      by_cases hlp : j < s.size
      · have hlp2 : decide ((p : Int) + k < s.size) = true := by rw [decide_eq_true_eq]; omega
        by_cases hd : s[j].toNat < 128
        · have HL := hide ((unhide HD).symm.trans (dl_less s j k hlp hlt hd))
          have hpm : (p : Int) + ((k : Int) + 1) ≤ s.size := by omega
          have HJ := hide hj
          clear hj
          go_wp2
          go_quiet (fail)
          go_wp2
          go_quiet (fail)
          go_wp2
          go_quiet (fail)
          go_wp2
          go_ret
          rw [unhide HL]
          exact ⟨rfl, by simp only [World.drewN_drewN]; exact ⟨_, rfl⟩⟩
        · have HL := hide ((dl_more s j k hlp hlt (by omega)).symm.trans (unhide HD))
          have hd2 : ¬ ((s[j].toNat : Int) < 128) := by omega
          have HJ := hide hj
          clear hj
          go_wp2
          go_quiet (fail)
          go_wp2
          go_quiet (fail)
          go_wp2
          go_roundw
          case rel => exact ⟨k + 1, _, by have := unhide HJ; omega, by omega, by go_num, World.drewN_drewN .., hide (by rw [show p + (k + 1) = j + 1 from by have := unhide HJ; omega]; exact unhide HL)⟩
          case measure => simp [intOf]; omega
      · have hlp2 : decide ((p : Int) + k < s.size) = false := by rw [decide_eq_false_iff_not]; omega
        have HL := hide ((unhide HD).symm.trans (dl_end s j k (by omega)))
        have hpm : (p : Int) + (k : Int) ≤ s.size := by omega
        clear hj hw1
        go_wp2
        go_quiet (fail)
        go_wp2
        go_quiet (fail)
        go_wp2
        go_ret
        rw [unhide HL]
        exact ⟨rfl, by simp only [World.drewN_drewN]; exact ⟨_, rfl⟩⟩
    · have hkd : decide ((k : Int) < 10) = false := by rw [decide_eq_false_iff_not]; omega
      have HL := hide ((unhide HD).symm.trans (dl_end s (p + k) k (by omega)))
      have hpm : (p : Int) + (k : Int) ≤ s.size := by omega
      go_wp2
      go_quiet (fail)
      go_wp2
      go_quiet (fail)
      go_wp2
      go_ret
      rw [unhide HL]
      exact ⟨rfl, by simp only [World.drewN_drewN]; exact ⟨_, rfl⟩⟩
theorem low_step (t : ByteArray) (k : Nat) (h : k < t.size) : low (t.data.toList.drop k) = t[k].toNat % 128 + 128 * low (t.data.toList.drop (k + 1)) := by
  rw [drop_cons t k h, low]
theorem low_end (t : ByteArray) (k : Nat) (h : t.size ≤ k) : low (t.data.toList.drop k) = 0 := by
  rw [List.drop_eq_nil_of_le (by rw [size_toList]; exact h)]; rfl
theorem low_room (t : ByteArray) (k : Nat) (ht : t.size ≤ 10) (h9 : t.size = 10 → ∀ h : 9 < t.size, t[9].toNat ≤ 1) : low (t.data.toList.drop k) < 18446744073709551616 := by
  by_cases hk : t.size ≤ k + 9
  · have h := low_lt (t.data.toList.drop k)
    rw [List.length_drop, size_toList] at h
    have : 128 ^ (t.size - k) ≤ 128 ^ 9 := Nat.pow_le_pow_right (by decide) (by omega)
    omega
  · have hk0 : k = 0 := by omega
    have hs : t.size = 10 := by omega
    subst hk0
    have h1 := h9 hs (by omega)
    have e : ∀ (m : Nat) (hm : m < t.size), low (t.data.toList.drop m) < 128 ^ (9 - m) * (low (t.data.toList.drop 9) + 1) ∨ 9 < m := by
      intro m hm
      by_cases h9m : 9 < m
      · exact .inr h9m
      · left
        have hj : ∀ j, j ≤ 9 → low (t.data.toList.drop (9 - j)) < 128 ^ j * (low (t.data.toList.drop 9) + 1) := by
          intro j
          induction j with
          | zero => intro _; simp
          | succ j ih =>
            intro hj
            have := ih (by omega)
            rw [low_step t (9 - (j + 1)) (by omega), show 9 - (j + 1) + 1 = 9 - j from by omega, Nat.pow_succ, Nat.mul_comm (128 ^ j) 128, Nat.mul_assoc]
            omega
        have := hj (9 - m) (by omega)
        rwa [show 9 - (9 - m) = m from by omega] at this
    have h0 := (e 0 (by omega)).resolve_right (by omega)
    have hl : low (t.data.toList.drop 9) ≤ 1 := by
      rw [low_step t 9 (by omega), low_end t (9 + 1) (by omega)]
      omega
    have h2 : 128 ^ (9 - 0) * (low (t.data.toList.drop 9) + 1) ≤ 128 ^ 9 * 2 := Nat.mul_le_mul (by decide) (by omega)
    omega
/-- what the number's call says of digits -/
def numS (D : List UInt8) (most : Nat) : Nat × Int :=
  if (fin D 0 0).2.2 ≠ 0 then (0, (fin D 0 0).2.2) else if most < (fin D 0 0).1 then (0, 11) else ((fin D 0 0).1, 0)
end Go.Proofs.Ytpjepndeppckdaa
