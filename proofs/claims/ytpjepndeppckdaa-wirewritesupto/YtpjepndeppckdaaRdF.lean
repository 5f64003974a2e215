/- Numbers of a fixed width, read. -/
import Derived.Test.YtpjepndeppckdaaRd
namespace Go.Proofs.Ytpjepndeppckdaa
open Go.RowKit Go.Lib

/-- the number that bytes are, the highest first -/
def numB (l : List UInt8) : Nat := l.foldl (fun v b => v * 256 + b.toNat) 0
theorem numB_snoc (l : List UInt8) (b : UInt8) : numB (l ++ [b]) = numB l * 256 + b.toNat := by simp [numB]
theorem numB_acc (l : List UInt8) (v : Nat) : l.foldl (fun v b => v * 256 + b.toNat) v < (v + 1) * 256 ^ l.length := by
  induction l generalizing v with
  | nil => simp
  | cons b l ih =>
    rw [List.foldl_cons, List.length_cons, Nat.pow_succ, Nat.mul_comm (256 ^ l.length) 256, ← Nat.mul_assoc]
    refine Nat.lt_of_lt_of_le (ih _) (Nat.mul_le_mul_right _ ?_)
    have := b.toNat_lt
    omega
theorem numB_lt (l : List UInt8) : numB l < 256 ^ l.length := by
  have := numB_acc l 0
  simpa [numB] using this
theorem or_byte (v : Nat) (b : UInt8) (hv : v < 72057594037927936) : bits .or .u64 ((v : Int) * 256) (IntKind.u64.wrap (b.toNat : Int)) = ((v * 256 + b.toNat : Nat) : Int) := by
  have hb := b.toNat_lt
  have e : IntKind.u64.wrap (b.toNat : Int) = ((b.toNat : Nat) : Int) := by rw [IntKind.wrap_u64]; omega
  have e2 : ((v : Int) * 256) = ((v * 256 : Nat) : Int) := by omega
  rw [e, e2, u64_or_nat _ _ (by omega) (by omega)]
  congr 1
  have := Nat.two_pow_add_eq_or_of_lt (i := 8) (b := b.toNat) hb v
  rw [Nat.mul_comm v 256]
  exact this.symm
theorem take_snoc (s : ByteArray) (k : Nat) (h : k < s.size) : s.data.toList.take (k + 1) = s.data.toList.take k ++ [s[k]] := by
  rw [List.take_succ_eq_append_getElem (by simpa using h)]; rfl
/-- the value that Fixed answers -/
def fixS (s : ByteArray) (p : Nat) (e n : Int) : Nat × Nat × Int :=
  if n < 1 ∨ 8 < n then (0, p, failE e 1) else (numB (rawS s p e n).1.data.toList, (rawS s p e n).2.1, (rawS s p e n).2.2)
theorem rawS_size (s : ByteArray) (p : Nat) (e n : Int) : ((rawS s p e n).1.size : Int) ≤ max n 0 := by
  unfold rawS
  split
  · simp [ByteArray.size]; omega
  · split
    · simp [ByteArray.size]; omega
    · split
      · simp [ByteArray.size]; omega
      · simp; omega
set_option maxRecDepth 100000 in
set_option maxHeartbeats 400000 in
theorem rFixed (a : Nat) (s : ByteArray) (p : Nat) (e n : Int) (w : World) (h : Rd w a s p e) :
    Calls Try.prog 12 #[.pointer (some ⟨a, 0, none⟩), .int .i64 n] w fun y w' => y = .returned (.int .u64 (fixS s p e n).1) ∧ Rt w w' a s (fixS s p e n).2.1 (fixS s p e n).2.2 := by
  have H := hide h
  have hle := h.le
  clear h
  by_cases hn1 : n < 1
  · have hr : fixS s p e n = (0, p, failE e 1) := if_pos (.inl hn1)
    rw [hr]
    clear hr
    go_enter Try.func12, Try.ntmps12
    go_wp2_with fail
    refine (rFail a s p e 1 _ (unhide H)).mono ?_
    rintro x w1 ⟨rfl, hp⟩
    have HP := hide hp
    clear hp
    go_wp2
    go_ret
    exact ⟨rfl, unhide HP⟩
  · by_cases hn8 : 8 < n
    · have hr : fixS s p e n = (0, p, failE e 1) := if_pos (.inr hn8)
      rw [hr]
      clear hr
      go_enter Try.func12, Try.ntmps12
      go_wp2_with fail
      refine (rFail a s p e 1 _ (unhide H)).mono ?_
      rintro x w1 ⟨rfl, hp⟩
      have HP := hide hp
      clear hp
      go_wp2
      go_ret
      exact ⟨rfl, unhide HP⟩
    · have hr : fixS s p e n = (numB (rawS s p e n).1.data.toList, (rawS s p e n).2.1, (rawS s p e n).2.2) := if_neg (by omega)
      have hsz := rawS_size s p e n
      rw [hr]
      clear hr
      have hraw := rRaw a s p e n w (unhide H)
      generalize rawS s p e n = q at hraw hsz ⊢
      obtain ⟨t, p', e'⟩ := q
      simp only at hraw hsz ⊢
      have ht : t.size ≤ 8 := by omega
      have HR := hide hraw
      clear hraw hsz
      go_enter Try.func12, Try.ntmps12
      go_wp2_with fail
      refine (unhide HR).mono ?_
      rintro x w1 ⟨rfl, hp⟩
      have HP := hide hp
      clear hp
      go_wp2
      go_loop [6, 21] (fun v i => ∃ k : Nat, k ≤ t.size ∧ i = .int .i64 k ∧ v = .int .u64 (numB (t.data.toList.take k))) (fun _ i => t.size - (intOf i).toNat)
      case atStart => exact ⟨0, Nat.zero_le _, rfl, rfl⟩
      case round =>
        obtain ⟨k, hk, rfl, rfl⟩ := hrel
        have hb := numB_lt (t.data.toList.take k)
        by_cases hlt : k < t.size
        · have hts := take_snoc t k hlt
          have hsn := numB_snoc (t.data.toList.take k) t[k]
          have HS : Hid (numB (t.data.toList.take (k + 1)) = numB (t.data.toList.take k) * 256 + t[k].toNat) := by rw [hts]; exact hsn
          have hlk : numB (t.data.toList.take k) < 72057594037927936 := by
            rw [List.length_take, size_toList, Nat.min_eq_left (by omega)] at hb
            have : 256 ^ k ≤ 256 ^ 7 := Nat.pow_le_pow_right (by decide) (by omega)
            omega
          clear hts hsn hb
          generalize hv : numB (t.data.toList.take k) = v at *
          have HV := hide hv
          clear hv
          go_wp2
          go_round
          case rel => exact ⟨k + 1, by omega, by go_num, by rw [or_byte v _ hlk, unhide HS]⟩
          case measure => simp [intOf]; omega
        · have hkk : k = t.size := by omega
          have e : numB (t.data.toList.take k) = numB t.data.toList := by rw [List.take_of_length_le (by rw [size_toList]; omega)]
          have E := hide e
          clear e hb hkk
          go_wp2
          go_ret
          rw [unhide E]
          exact ⟨rfl, unhide HP⟩

theorem rByte (a : Nat) (s : ByteArray) (p : Nat) (e : Int) (w : World) (h : Rd w a s p e) :
    Calls Try.prog 10 #[.pointer (some ⟨a, 0, none⟩)] w fun y w' => y = .returned (.int .u8 ((fixS s p e 1).1 % 256 : Nat)) ∧ Rt w w' a s (fixS s p e 1).2.1 (fixS s p e 1).2.2 := by
  have hfix := rFixed a s p e 1 w h
  generalize fixS s p e 1 = q at hfix ⊢
  obtain ⟨t, p', e'⟩ := q
  simp only at hfix ⊢
  have HR := hide hfix
  clear hfix h
  go_enter Try.func10, Try.ntmps10
  go_wp2_with fail
  refine (unhide HR).mono ?_
  rintro x w1 ⟨rfl, hp⟩
  have HP := hide hp
  clear hp
  go_wp2
  go_ret
  refine ⟨?_, unhide HP⟩
  show Ending.returned (.int .u8 ((t : Int) % 256)) = _
  rw [Int.natCast_emod]; rfl
theorem rSmall (a : Nat) (s : ByteArray) (p : Nat) (e : Int) (w : World) (h : Rd w a s p e) :
    Calls Try.prog 11 #[.pointer (some ⟨a, 0, none⟩)] w fun y w' => y = .returned (.int .i16 (IntKind.i16.wrap ((fixS s p e 2).1 : Nat))) ∧ Rt w w' a s (fixS s p e 2).2.1 (fixS s p e 2).2.2 := by
  have hfix := rFixed a s p e 2 w h
  generalize fixS s p e 2 = q at hfix ⊢
  obtain ⟨t, p', e'⟩ := q
  simp only at hfix ⊢
  have HR := hide hfix
  clear hfix h
  go_enter Try.func11, Try.ntmps11
  go_wp2_with fail
  refine (unhide HR).mono ?_
  rintro x w1 ⟨rfl, hp⟩
  have HP := hide hp
  clear hp
  go_wp2
  go_ret
  exact ⟨rfl, unhide HP⟩
theorem rBack (a : Nat) (s : ByteArray) (p : Nat) (e : Int) (q : Nat) (w : World) (h : Rd w a s p e) (hq : q ≤ s.size) :
    Calls Try.prog 41 #[.pointer (some ⟨a, 0, none⟩), .int .i64 q] w fun y w' => y = .returned (.tuple #[]) ∧ Rt w w' a s q e := by
  have H := hide h
  obtain ⟨h1, h2, h3, c0, c1, c2, f1, f2⟩ := h
  clear c0 c2
  go_enter Try.func41, Try.ntmps41
  go_wp2
  go_returns
  exact ⟨rfl, (unhide H).setAt q hq, (Upd.refl _ _ _).setCell _ _⟩
/-- what Float takes: the float's bits -/
def fltS (s : ByteArray) (p : Nat) (e : Int) : Nat × Nat × Int :=
  if isNan (fixS s p e 8).1 = true ∧ (fixS s p e 8).1 ≠ 9221120237041090560 then (0, p, failE (fixS s p e 8).2.2 4) else fixS s p e 8
end Go.Proofs.Ytpjepndeppckdaa
