/- A set out of bytes. -/
import Derived.Test.YtloealcaagfehaaDoorBo
import Derived.Test.YtloealcaagfehaaDoorBx
import Derived.BigQuiet
namespace Go.Proofs.YtloealcaagfehaaDoor
open Go.RowKit

theorem Bq.byte {u : World} {p q n S : Nat} (h : Bq u p q n S) (k b : Nat) (hb : b < 256) : Bq (u.setCell ⟨q, k / 8, none⟩ (.int .u64 ((Bit.word S (k / 8) ||| b <<< (k % 8 * 8) : Nat) : Int))) p q n (S ||| b <<< (8 * k)) :=
  h.lay (Bit.word_byte S k b hb).symm (fun i hi => Bit.word_byte_other S k b i hb hi)
theorem bFromBad (n : Nat) (hn : n ≤ 65536) (s : ByteArray) (hL : s.size ≠ (n + 7) / 8) (w : World) :
    Calls Tryd.prog 18 #[.int .i64 (n : Int), .string s] w fun e w' => e = .returned (.tuple #[.pointer none, .int .i64 4]) ∧ Below w.heap.size w w' := by
  obtain ⟨L, hL2⟩ : ∃ L, L = (n + 7) / 8 := ⟨_, rfl⟩
  have HB := hide (fun u => bBytesOf n (by omega) u)
  rw [← hL2] at HB hL
  have hne : ¬ (s.size : Int) = (L : Int) := by omega
  clear hL2
  go_enter Tryd.func18, Tryd.ntmps18
  go_wp2_with (first | (go_at_call 28; refine (bNew n (by omega) _).mono ?_; rintro e w1 ⟨p, q, rfl, hp, hq, hm, hb⟩; have HW := hide hb; clear hp hq hm hb) | (go_at_call 39; refine (unhide HB _).mono ?_; rintro e w2 ⟨rfl, hw2⟩; obtain rfl := hw2.symm; clear hw2))
  go_ret2
  exact ⟨rfl, unhide HW⟩
theorem shl_byte (b c : Nat) (hb : b < 256) (hc : c ≤ 56) : IntKind.u64.wrap ((b : Int) * 2 ^ c) = ((b <<< c : Nat) : Int) ∧ b <<< c < 18446744073709551616 := by
  have h1 : 2 ^ c ≤ 2 ^ 56 := Nat.pow_le_pow_right (by decide) hc
  have h2 : b * 2 ^ c ≤ 255 * 2 ^ 56 := Nat.mul_le_mul (by omega) h1
  have h3 : ((b : Int) * 2 ^ c) = ((b * 2 ^ c : Nat) : Int) := by simp
  rw [Nat.shiftLeft_eq, h3, IntKind.wrap_u64]
  have h4 : 255 * 2 ^ 56 < 18446744073709551616 := by decide
  constructor
  · omega
  · omega
set_option maxRecDepth 100000 in
theorem bFrom (n : Nat) (hn : n ≤ 65536) (s : ByteArray) (hL : s.size = (n + 7) / 8) (hlt : Bit.num s.data.toList < 2 ^ n) (w : World) :
    Calls Tryd.prog 18 #[.int .i64 (n : Int), .string s] w fun e w' => ∃ p q, e = .returned (.tuple #[.pointer (some ⟨p, 0, none⟩), .int .i64 0]) ∧ w.heap.size ≤ p ∧ w.heap.size ≤ q ∧ Bm w' p q n (Bit.num s.data.toList) ∧ Below w.heap.size w w' := by
  obtain ⟨L, hL2⟩ : ∃ L, L = (n + 7) / 8 := ⟨_, rfl⟩
  have HB := hide (fun u => bBytesOf n (by omega) u)
  rw [← hL2] at HB hL
  have HL := hide hL2
  have HT := hide hlt
  have hL8 : L ≤ 8192 := by omega
  have hsl : s.data.toList.length = s.size := Array.length_toList
  have HSL := hide hsl
  clear hL2 hlt hsl
  go_enter Tryd.func18, Tryd.ntmps18
  go_wp2_with (first | (go_at_call 28; refine (bNew n (by omega) _).mono ?_; rintro e w1 ⟨p, q, rfl, hp, hq, hm, hb⟩; have HP := hide hp; have HQ := hide hq; have HM := hide hm; have HW := hide hb; clear hp hq hm hb) | (go_at_call 39; refine (unhide HB _).mono ?_; rintro e w2 ⟨rfl, hw2⟩; obtain rfl := hw2.symm; clear hw2))
  go_loopw [25] (fun i wr => ∃ k : Nat, k ≤ s.size ∧ i = .int .i64 k ∧ Hid (Bq wr p q n (Bit.num (s.data.toList.take k)) ∧ Below w.heap.size w wr)) (fun i _ => s.size - (intOf i).toNat)
  case atStart => exact ⟨0, Nat.zero_le _, rfl, hide ⟨(unhide HM).bq, unhide HW⟩⟩
  case round =>
    clear HM HW
    obtain ⟨k, hk, rfl, HI⟩ := hrel
    have HB0 := hide (unhide HI).2
    have HQ0 := hide (unhide HI).1
    clear HI
    by_cases hlt : k < s.size
    · have hL' := unhide HL
      have hkw : k / 8 < (n + 63) / 64 := by omega
      have hb := s[k].toNat_lt
      obtain ⟨b, hbe⟩ : ∃ b, b = s[k].toNat := ⟨_, rfl⟩
      have HS : Hid (Bit.num (s.data.toList.take (k + 1)) = Bit.num (s.data.toList.take k) ||| b <<< (8 * k)) := by
        show _ = _
        have hk' : k < s.data.toList.length := by rw [unhide HSL]; exact hlt
        rw [List.take_succ_eq_append_getElem hk', Bit.num_snoc, List.length_take, Nat.min_eq_left (by omega), hbe]
        rfl
      obtain ⟨cw, h1⟩ := (unhide HQ0).c1
      have h2 := (unhide HQ0).w (k / 8) hkw
      have h3 := (unhide HQ0).fz (k / 8)
      have hb' : b < 256 := by rw [hbe]; exact hb
      have HN := hide ((unhide HQ0).byte k b hb')
      rw [← unhide HS] at HN
      have hW := Bit.word_lt (Bit.num (s.data.toList.take k)) (k / 8)
      obtain ⟨m, hm⟩ : ∃ m, m = (n + 63) / 64 := ⟨_, rfl⟩
      obtain ⟨a, ha⟩ : ∃ a, a = k / 8 := ⟨_, rfl⟩
      obtain ⟨r, hr⟩ : ∃ r, r = k % 8 := ⟨_, rfl⟩
      have hsh := (shl_byte b (k % 8 * 8) hb' (by omega)).1
      have HO := hide (u64_or_nat _ _ hW (shl_byte b (k % 8 * 8) hb' (by omega)).2)
      rw [← hm] at h1
      rw [← ha] at h2 h3 HN HO
      rw [← hr] at hsh HN HO
      obtain ⟨t, ht⟩ : ∃ t, t = b <<< (r * 8) := ⟨_, rfl⟩
      rw [← ht] at hsh HN HO
      generalize Bit.word (Bit.num (s.data.toList.take k)) a = W at *
      have e1 : (k : Int) / 8 = (a : Int) := by omega
      have e2 : (k : Int) % 8 = (r : Int) := by omega
      have hki : (k : Int) < (s.size : Int) := by omega
      have ham : (a : Int) < (m : Int) := by omega
      have ha2 : a < 1024 := by omega
      have hr2 : r < 8 := by omega
      have hbs := hbe.symm
      clear HS hL' hkw hbe hm ha hr hW ht hb
      go_wp2
      go_region
      rw [unhide HO]
      go_wp2
      go_roundw
      case rel => exact ⟨k + 1, by omega, by go_num, hide ⟨(unhide HN).drew, belowDrew (belowCell (unhide HB0) (unhide HQ) _)⟩⟩
      case measure => simp [intOf]; omega
    · have hkk : k = s.data.toList.length := by rw [unhide HSL]; omega
      have HE : Hid (s.data.toList.take k = s.data.toList) := by
        show _ = _
        rw [hkk, List.take_length]
      rw [unhide HE] at HQ0
      clear hkk
      obtain ⟨S, hS⟩ : ∃ S, S = Bit.num s.data.toList := ⟨_, rfl⟩
      rw [← hS] at HQ0 HT
      have HSE := hide hS
      clear hS
      have HM := hide ((unhide HQ0).bm (unhide HT))
      obtain ⟨cw, h1⟩ := (unhide HQ0).c1
      by_cases hn0 : n = 0
      · subst hn0
        go_wp2
        go_quiet (fail)
        go_wp2
        go_ret2
        exact ⟨p, q, rfl, unhide HP, unhide HQ, by rw [← unhide HSE]; exact (unhide HM).drewN _, belowDrewN (unhide HB0) _⟩
      · obtain ⟨t, ht⟩ : ∃ t, (n + 63) / 64 = t + 1 := ⟨(n + 63) / 64 - 1, by omega⟩
        have h2 := (unhide HQ0).w t (by omega)
        obtain ⟨c, hc⟩ : ∃ c, c = n - 64 * t := ⟨_, rfl⟩
        have hc64 : c ≤ 64 := by omega
        have hW := (Bit.last_word (n := n) (m := t) (Nat.lt_of_lt_of_le (unhide HT) (Nat.pow_le_pow_right (by decide) (by omega))) (by omega)).2 (unhide HT)
        rw [← hc] at hW
        obtain ⟨M, hM⟩ : ∃ M, M = 2 ^ c - 1 := ⟨_, rfl⟩
        have hM2 : M < 18446744073709551616 := by
          have : 2 ^ c ≤ 2 ^ 64 := Nat.pow_le_pow_right (by decide) hc64
          have : (2 : Nat) ^ 64 = 18446744073709551616 := rfl
          omega
        have han := u64_andNot_nat (Bit.word S t) M (Bit.word_lt S t) hM2
        rw [hM, Bit.over_none hc64 hW, ← hM] at han
        have HLo := hide (fun u => bLowest (c : Int) c (by omega) u)
        rw [← hM] at HLo
        rw [ht] at h1
        have ec : (n : Int) - (t : Int) * 64 = (c : Int) := by omega
        have ht2 : t < 1024 := by omega
        generalize Bit.word S t = W at *
        clear hM hM2 hW hc ht HQ0 HE
        go_wp2
        go_quiet ((go_at_call 51; exact Calls.quiet_of_same (unhide HLo _)))
        go_wp2
        go_ret2
        exact ⟨p, q, rfl, unhide HP, unhide HQ, by rw [← unhide HSE]; exact (unhide HM).drewN _, belowDrewN (unhide HB0) _⟩
end Go.Proofs.YtloealcaagfehaaDoor
