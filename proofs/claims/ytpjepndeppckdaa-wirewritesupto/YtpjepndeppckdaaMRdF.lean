/- The document's reader: numbers of a fixed width and floats. -/
import Derived.Test.YtpjepndeppckdaaMRd
namespace Go.Proofs.Ytpjepndeppckdaa
open Go.RowKit Go.Lib

theorem fixS_in (s : ByteArray) (p : Nat) (e n : Int) (h1 : 1 ≤ n) (h8 : n ≤ 8) : fixS s p e n = (numB (rawS s p e n).1.data.toList, (rawS s p e n).2.1, (rawS s p e n).2.2) := if_neg (by omega)
theorem mByte (a : Nat) (s : ByteArray) (p : Nat) (e : Int) (w : World) (h : Rd w a s p e) :
    Calls Try.prog 49 #[.pointer (some ⟨a, 0, none⟩)] w fun y w' => y = .returned (.int .u8 ((fixS s p e 1).1 % 256 : Nat)) ∧ Rt w w' a s (fixS s p e 1).2.1 (fixS s p e 1).2.2 := by
  rw [fixS_in s p e 1 (by decide) (by decide)]
  have hraw := mRaw a s p e 1 w h (by decide)
  have hsz := rawS_size s p e 1
  generalize rawS s p e 1 = q at hraw hsz ⊢
  obtain ⟨t, p', e'⟩ := q
  simp only at hraw hsz ⊢
  have ht : t.size ≤ 8 := by omega
  have HW := hide (fun u => mWhole t u ht)
  generalize numB t.data.toList = v at HW ⊢
  have HR := hide hraw
  clear hraw h hsz
  go_enter Try.func49, Try.ntmps49
  go_wp2_with fail
  refine (unhide HR).mono ?_
  rintro x w1 ⟨rfl, hp⟩
  have HP := hide hp
  clear hp
  go_wp2_with fail
  refine ((unhide HW) _).mono ?_
  rintro x w2 ⟨rfl, rfl⟩
  go_wp2
  go_ret
  refine ⟨?_, unhide HP⟩
  show Ending.returned (.int .u8 ((v : Int) % 256)) = _
  rw [Int.natCast_emod]; rfl
theorem small_wrap (v : Nat) (h : v < 65536) : IntKind.i16.wrap (v : Int) = if 32768 ≤ v then (v : Int) - 65536 else v := by
  simp only [IntKind.wrap, IntKind.signed, IntKind.bits, Bool.true_and]
  by_cases h2 : 32768 ≤ v
  · rw [if_pos h2, if_pos (by simp; omega)]; omega
  · rw [if_neg h2, if_neg (by simp; omega)]; omega
theorem mSmall (a : Nat) (s : ByteArray) (p : Nat) (e : Int) (w : World) (h : Rd w a s p e) :
    Calls Try.prog 50 #[.pointer (some ⟨a, 0, none⟩)] w fun y w' => y = .returned (.int .i16 (IntKind.i16.wrap ((fixS s p e 2).1 : Nat))) ∧ Rt w w' a s (fixS s p e 2).2.1 (fixS s p e 2).2.2 := by
  rw [fixS_in s p e 2 (by decide) (by decide)]
  have hraw := mRaw a s p e 2 w h (by decide)
  have hsz := rawS_size s p e 2
  generalize rawS s p e 2 = q at hraw hsz ⊢
  obtain ⟨t, p', e'⟩ := q
  simp only at hraw hsz ⊢
  have ht : t.size ≤ 2 := by omega
  have hv : numB t.data.toList < 65536 := by
    have := numB_lt t.data.toList
    rw [size_toList] at this
    have h2 : 256 ^ t.size ≤ 256 ^ 2 := Nat.pow_le_pow_right (by decide) ht
    omega
  have HW := hide (fun u => mWhole t u (by omega))
  generalize numB t.data.toList = v at HW hv ⊢
  have HR := hide hraw
  clear hraw h hsz
  have hw := small_wrap v hv
  by_cases hb : 32768 ≤ v
  · rw [if_pos hb] at hw
    have hvi : (v : Int) < 65536 := by omega
    have hbi : (32768 : Int) ≤ v := by omega
    have HE := hide hw
    clear hw hv hb
    go_enter Try.func50, Try.ntmps50
    go_wp2_with fail
    refine (unhide HR).mono ?_
    rintro x w1 ⟨rfl, hp⟩
    have HP := hide hp
    clear hp
    go_wp2_with fail
    refine ((unhide HW) _).mono ?_
    rintro x w2 ⟨rfl, rfl⟩
    go_wp2
    go_ret
    refine ⟨?_, unhide HP⟩
    rw [unhide HE]; rfl
  · rw [if_neg hb] at hw
    have hvi : (v : Int) < 32768 := by omega
    have hv0 : (0 : Int) ≤ v := by omega
    have HE := hide hw
    clear hw hv hb
    generalize (v : Int) = V at *
    go_enter Try.func50, Try.ntmps50
    go_wp2_with fail
    refine (unhide HR).mono ?_
    rintro x w1 ⟨rfl, hp⟩
    have HP := hide hp
    clear hp
    go_wp2_with fail
    refine ((unhide HW) _).mono ?_
    rintro x w2 ⟨rfl, rfl⟩
    go_wp2
    go_ret
    refine ⟨?_, unhide HP⟩
    rw [unhide HE]; rfl
theorem mFixed (a : Nat) (s : ByteArray) (p : Nat) (e n : Int) (w : World) (h : Rd w a s p e) :
    Calls Try.prog 51 #[.pointer (some ⟨a, 0, none⟩), .int .i64 n] w fun y w' => y = .returned (.int .u64 (fixS s p e n).1) ∧ Rt w w' a s (fixS s p e n).2.1 (fixS s p e n).2.2 := by
  have H := hide h
  by_cases hn : n < 1 ∨ 8 < n
  · have hr : fixS s p e n = (0, p, failE e 1) := if_pos hn
    rw [hr]
    clear hr h
    rcases hn with hn | hn
    all_goals
      go_enter Try.func51, Try.ntmps51
      go_wp2_with fail
      refine (mfail a s p e 1 _ (unhide H)).mono ?_
      rintro x w1 ⟨rfl, hp⟩
      have HP := hide hp
      clear hp
      go_wp2
      go_ret
      exact ⟨rfl, unhide HP⟩
  · rw [fixS_in s p e n (by omega) (by omega)]
    have hraw := mRaw a s p e n w h (by omega)
    have hsz := rawS_size s p e n
    generalize rawS s p e n = q at hraw hsz ⊢
    obtain ⟨t, p', e'⟩ := q
    simp only at hraw hsz ⊢
    have HW := hide (fun u => mWhole t u (by omega))
    generalize numB t.data.toList = v at HW ⊢
    have HR := hide hraw
    have h1 : 1 ≤ n := by omega
    have h8 : n ≤ 8 := by omega
    clear hraw h hsz hn
    go_enter Try.func51, Try.ntmps51
    go_wp2_with fail
    refine (unhide HR).mono ?_
    rintro x w1 ⟨rfl, hp⟩
    have HP := hide hp
    clear hp
    go_wp2_with fail
    refine ((unhide HW) _).mono ?_
    rintro x w2 ⟨rfl, rfl⟩
    go_wp2
    go_ret
    exact ⟨rfl, unhide HP⟩
end Go.Proofs.Ytpjepndeppckdaa
