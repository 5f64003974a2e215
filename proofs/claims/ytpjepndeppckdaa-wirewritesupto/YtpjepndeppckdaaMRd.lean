/- The document's reader: the same three cells, the same answers. -/
import Derived.Test.YtpjepndeppckdaaRdT
namespace Go.Proofs.Ytpjepndeppckdaa
open Go.RowKit Go.Lib

theorem mfail (a : Nat) (s : ByteArray) (p : Nat) (e x : Int) (w : World) (h : Rd w a s p e) :
    Calls Try.prog 62 #[.pointer (some ⟨a, 0, none⟩), .int .i64 x] w fun y w' => y = .returned (.tuple #[]) ∧ Rt w w' a s p (failE e x) := by
  have H := hide h
  obtain ⟨h1, h2, h3, c0, c1, c2, f1, f2⟩ := h
  clear c0 c1
  by_cases he : e = 0
  · subst he
    go_enter Try.func62, Try.ntmps62
    go_wp2
    go_returns
    exact ⟨rfl, (unhide H).setErr x, (Upd.refl _ _ _).setCell _ _⟩
  · have hr : failE e x = e := if_neg he
    rw [hr]
    have hb : (e == 0) = false := by rw [beq_eq_false_iff_ne]; exact he
    clear hr he
    go_enter Try.func62, Try.ntmps62
    go_wp2
    go_returns
    exact ⟨rfl, Rt.refl (unhide H)⟩
theorem mFail (a : Nat) (s : ByteArray) (p : Nat) (e x : Int) (w : World) (h : Rd w a s p e) :
    Calls Try.prog 57 #[.pointer (some ⟨a, 0, none⟩), .int .i64 x] w fun y w' => y = .returned (.tuple #[]) ∧ Rt w w' a s p (failE e x) := by
  have H := hide h
  clear h
  go_enter Try.func57, Try.ntmps57
  go_wp2_with fail
  refine (mfail a s p e x _ (unhide H)).mono ?_
  rintro x w1 ⟨rfl, hp⟩
  have HP := hide hp
  clear hp
  go_wp2
  go_returns
  exact ⟨rfl, unhide HP⟩
theorem mEnd (a : Nat) (s : ByteArray) (p : Nat) (e : Int) (w : World) (h : Rd w a s p e) :
    Calls Try.prog 26 #[.pointer (some ⟨a, 0, none⟩)] w fun x w' => x = .returned (.int .i64 (endE s.size p e)) ∧ ∃ n, w' = w.drewN n := by
  obtain ⟨h1, h2, h3, c0, c1, c2, f1, f2⟩ := h
  by_cases he : e = 0
  · subst he
    by_cases hp : p < s.size
    · have hr : endE s.size p 0 = 12 := by unfold endE; rw [if_pos rfl, if_pos hp]
      rw [hr]
      clear hr
      go_enter Try.func26, Try.ntmps26
      go_wp2
      go_quiet (fail)
      go_wp2
      go_ret
      exact ⟨rfl, _, rfl⟩
    · have hr : endE s.size p 0 = 0 := by unfold endE; rw [if_pos rfl, if_neg hp]
      rw [hr]
      clear hr
      go_enter Try.func26, Try.ntmps26
      go_wp2
      go_quiet (fail)
      go_wp2
      go_ret
      exact ⟨rfl, _, rfl⟩
  · have hr : endE s.size p e = e := by unfold endE; rw [if_neg he]
    rw [hr]
    clear hr
    have hb : (e == 0) = false := by rw [beq_eq_false_iff_ne]; exact he
    clear he
    go_enter Try.func26, Try.ntmps26
    go_wp2
    go_quiet (fail)
    go_wp2
    go_ret
    exact ⟨rfl, _, rfl⟩
theorem mRaw (a : Nat) (s : ByteArray) (p : Nat) (e n : Int) (w : World) (h : Rd w a s p e) (hn63 : n ≤ 9223372036854775807) :
    Calls Try.prog 56 #[.pointer (some ⟨a, 0, none⟩), .int .i64 n] w fun y w' => y = .returned (.string (rawS s p e n).1) ∧ Rt w w' a s (rawS s p e n).2.1 (rawS s p e n).2.2 := by
  have H := hide h
  have hle := h.le
  have hmx := h.max
  by_cases hn : n < 0
  · have hr : rawS s p e n = (⟨#[]⟩, p, failE e 1) := by
      unfold rawS failE
      by_cases he : e = 0
      · rw [if_neg (by simp [he]), if_pos hn, if_pos he]
      · rw [if_pos he, if_neg he]
    rw [hr]
    have hf : failE e 1 ≠ 0 := by unfold failE; split <;> omega
    have hfb : (failE e 1 != 0) = true := by rw [bne_iff_ne]; exact hf
    clear hr hf h
    go_enter Try.func56, Try.ntmps56
    go_wp2_with fail
    refine (mfail a s p e 1 _ (unhide H)).mono ?_
    rintro x w1 ⟨rfl, hp⟩
    have HP := hide hp
    obtain ⟨h1, h2, h3, c0, c1, c2, f1, f2⟩ := hp.1
    clear hp
    go_wp2
    go_quiet (fail)
    go_wp2
    go_ret
    exact ⟨rfl, (unhide HP).1.drewN _, (unhide HP).2.drewN _⟩
  · by_cases hl : (s.size : Int) - p < n
    · have hr : rawS s p e n = (⟨#[]⟩, p, failE e 10) := by
        unfold rawS failE
        by_cases he : e = 0
        · rw [if_neg (by simp [he]), if_neg hn, if_pos hl, if_pos he]
        · rw [if_pos he, if_neg he]
      rw [hr]
      have hf : failE e 10 ≠ 0 := by unfold failE; split <;> omega
      have hfb : (failE e 10 != 0) = true := by rw [bne_iff_ne]; exact hf
      clear hr hf
      obtain ⟨h1, h2, h3, c0, c1, c2, f1, f2⟩ := h
      go_enter Try.func56, Try.ntmps56
      go_wp2
      go_quiet (fail)
      go_wp2_with fail
      refine (mfail a s p e 10 _ ((unhide H).drewN _)).mono ?_
      rintro x w1 ⟨rfl, hp⟩
      have HP := hide hp
      have hc2 := hp.1.c2
      clear hp c0 c1 c2 f1 f2
      go_wp2
      go_ret
      exact ⟨rfl, (unhide HP).1, ((Upd.refl _ _ _).drewN _).trans (unhide HP).2 (.inl rfl)⟩
    · obtain ⟨m, rfl⟩ := Int.eq_ofNat_of_zero_le (by omega : 0 ≤ n)
      by_cases he : e = 0
      · subst he
        have hr : rawS s p 0 m = (s.extract p (p + m), p + m, 0) := by unfold rawS; rw [if_neg (by simp), if_neg hn, if_neg hl]; rfl
        rw [hr]
        clear hr
        obtain ⟨h1, h2, h3, c0, c1, c2, f1, f2⟩ := h
        have hpm : (p : Int) + m ≤ s.size := by omega
        go_enter Try.func56, Try.ntmps56
        go_wp2
        go_quiet (fail)
        go_wp2
        go_quiet (fail)
        go_wp2
        go_ret
        refine ⟨rfl, ?_, ((Upd.refl _ _ _).drewN _).setCell _ _⟩
        have h'' := fun k => ((unhide H).drewN k).setAt (p + m) (by omega)
        simp only [Int.natCast_add] at h''
        exact h'' _
      · have hr : rawS s p e m = (⟨#[]⟩, p, e) := by unfold rawS; rw [if_pos he]
        rw [hr]
        clear hr
        have hb : (e != 0) = true := by rw [bne_iff_ne]; exact he
        clear he
        obtain ⟨h1, h2, h3, c0, c1, c2, f1, f2⟩ := h
        go_enter Try.func56, Try.ntmps56
        go_wp2
        go_quiet (fail)
        go_wp2
        go_ret
        exact ⟨rfl, (unhide H).drewN _, (Upd.refl _ _ _).drewN _⟩
/-- the document's way of a whole number -/
theorem mWhole (t : ByteArray) (w : World) (ht : t.size ≤ 8) :
    Calls Try.prog 61 #[.string t] w fun y w' => y = .returned (.int .u64 (numB t.data.toList)) ∧ w' = w := by
  go_enter Try.func61, Try.ntmps61
  go_wp2
  go_loop [3, 4] (fun v i => ∃ k : Nat, k ≤ t.size ∧ i = .int .i64 k ∧ v = .int .u64 (numB (t.data.toList.take k))) (fun _ i => t.size - (intOf i).toNat)
  case atStart => exact ⟨0, Nat.zero_le _, rfl, rfl⟩
  case round =>
    obtain ⟨k, hk, rfl, rfl⟩ := hrel
    have hb := numB_lt (t.data.toList.take k)
    by_cases hlt : k < t.size
    · have hts := take_snoc t k hlt
      have hsn := numB_snoc (t.data.toList.take k) t[k]
      have HS : Hid (numB (t.data.toList.take (k + 1)) = numB (t.data.toList.take k) * 256 + t[k].toNat) := by rw [hts]; exact hsn
      have hlk : numB (t.data.toList.take k) < 72057594037927936 := by
        rw [List.length_take, size_toList, Nat.min_eq_left (by omega)] at hb
        have : 256 ^ k ≤ 256 ^ 7 := Nat.pow_le_pow_right (by decide) (by omega)
        omega
      have hbl := t[k].toNat_lt
      clear hts hsn hb
      generalize hv : numB (t.data.toList.take k) = v at *
      have HV := hide hv
      clear hv
      go_wp2
      go_round
      case rel => exact ⟨k + 1, by omega, by go_num, by rw [unhide HS]; go_num⟩
      case measure => simp [intOf]; omega
    · have hkk : k = t.size := by omega
      have e : numB (t.data.toList.take k) = numB t.data.toList := by rw [List.take_of_length_le (by rw [size_toList]; omega)]
      have E := hide e
      clear e hb hkk
      go_wp2
      go_ret
      rw [unhide E]
      exact ⟨rfl, rfl⟩
end Go.Proofs.Ytpjepndeppckdaa
