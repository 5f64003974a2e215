/- Cut out of the texts of elder seats by cut.py and less.py. -/
import Derived.Test.YtkcbljmjhlnjpaaQ03
import Derived.Test.YtkcbljmjhlnjpaaQ13
import Derived.Test.YtkcbljmjhlnjpaaQ14
import Derived.Test.YtkcbljmjhlnjpaaQXha
import Derived.WalkKit
import Derived.WalkLawsBesides
import Derived.ProofKit
import Derived.OpenShut
import Derived.Handy
import Derived.Laws.BitsAllLaws
import Derived.Laws.DeepStrings4
import Derived.Deep.QuietTactic
import Derived.BigQuiet
import Derived.WalkSmall
import Derived.Lib.IndexBytes
import Derived.Laws.DeepNot64
namespace Go.Proofs.Ytkcbljmjhlnjpaa.W
open Go.RowKit Go.Lib
theorem mRaw (a : Nat) (s : ByteArray) (p : Nat) (e n : Int) (w : World) (h : Rd w a s p e) (hn63 : n ≤ 9223372036854775807) :
    Calls Try.prog 146 #[.pointer (some ⟨a, 0, none⟩), .int .i64 n] w fun y w' => y = .returned (.string (rawS s p e n).1) ∧ Rt w w' a s (rawS s p e n).2.1 (rawS s p e n).2.2 := by
  have H := hide h
  have hle := h.le
  have hmx := h.max
  by_cases hn : n < 0
  · have hr : rawS s p e n = (⟨#[]⟩, p, failE e 1) := by
      unfold rawS failE
      by_cases he : e = 0
      · rw [if_neg (by simp [he]), if_pos hn, if_pos he]
      · rw [if_pos he, if_neg he]
    rw [hr]
    have hf : failE e 1 ≠ 0 := by unfold failE; split <;> omega
    have hfb : (failE e 1 != 0) = true := by rw [bne_iff_ne]; exact hf
    clear hr hf h
    go_enter Try.func146, Try.ntmps146
    go_wp2_with fail
    refine (mfail a s p e 1 _ (unhide H)).mono ?_
    rintro x w1 ⟨rfl, hp⟩
    have HP := hide hp
    obtain ⟨h1, h2, h3, c0, c1, c2, f1, f2⟩ := hp.1
    clear hp
    go_wp2
    go_quiet (fail)
    go_wp2
    go_ret
    exact ⟨rfl, (unhide HP).1.drewN _, (unhide HP).2.drewN _⟩
  · by_cases hl : (s.size : Int) - p < n
    · have hr : rawS s p e n = (⟨#[]⟩, p, failE e 10) := by
        unfold rawS failE
        by_cases he : e = 0
        · rw [if_neg (by simp [he]), if_neg hn, if_pos hl, if_pos he]
        · rw [if_pos he, if_neg he]
      rw [hr]
      have hf : failE e 10 ≠ 0 := by unfold failE; split <;> omega
      have hfb : (failE e 10 != 0) = true := by rw [bne_iff_ne]; exact hf
      clear hr hf
      obtain ⟨h1, h2, h3, c0, c1, c2, f1, f2⟩ := h
      go_enter Try.func146, Try.ntmps146
      go_wp2
      go_quiet (fail)
      go_wp2_with fail
      refine (mfail a s p e 10 _ ((unhide H).drewN _)).mono ?_
      rintro x w1 ⟨rfl, hp⟩
      have HP := hide hp
      have hc2 := hp.1.c2
      clear hp c0 c1 c2 f1 f2
      go_wp2
      go_ret
      exact ⟨rfl, (unhide HP).1, ((Upd.refl _ _ _).drewN _).trans (unhide HP).2 (.inl rfl)⟩
    · obtain ⟨m, rfl⟩ := Int.eq_ofNat_of_zero_le (by omega : 0 ≤ n)
      by_cases he : e = 0
      · subst he
        have hr : rawS s p 0 m = (s.extract p (p + m), p + m, 0) := by unfold rawS; rw [if_neg (by simp), if_neg hn, if_neg hl]; rfl
        rw [hr]
        clear hr
        obtain ⟨h1, h2, h3, c0, c1, c2, f1, f2⟩ := h
        have hpm : (p : Int) + m ≤ s.size := by omega
        go_enter Try.func146, Try.ntmps146
        go_wp2
        go_quiet (fail)
        go_wp2
        go_quiet (fail)
        go_wp2
        go_ret
        refine ⟨rfl, ?_, ((Upd.refl _ _ _).drewN _).setCell _ _⟩
        have h'' := fun k => ((unhide H).drewN k).setAt (p + m) (by omega)
        simp only [Int.natCast_add] at h''
        exact h'' _
      · have hr : rawS s p e m = (⟨#[]⟩, p, e) := by unfold rawS; rw [if_pos he]
        rw [hr]
        clear hr
        have hb : (e != 0) = true := by rw [bne_iff_ne]; exact he
        clear he
        obtain ⟨h1, h2, h3, c0, c1, c2, f1, f2⟩ := h
        go_enter Try.func146, Try.ntmps146
        go_wp2
        go_quiet (fail)
        go_wp2
        go_ret
        exact ⟨rfl, (unhide H).drewN _, (Upd.refl _ _ _).drewN _⟩
/-- the document's way of a whole number -/
theorem mWhole (t : ByteArray) (w : World) (ht : t.size ≤ 8) :
    Calls Try.prog 147 #[.string t] w fun y w' => y = .returned (.int .u64 (numB t.data.toList)) ∧ w' = w := by
  go_enter Try.func147, Try.ntmps147
  go_wp2
  go_loop [3, 4] (fun v i => ∃ k : Nat, k ≤ t.size ∧ i = .int .i64 k ∧ v = .int .u64 (numB (t.data.toList.take k))) (fun _ i => t.size - (RowKit.intOf i).toNat)
  case atStart => exact ⟨0, Nat.zero_le _, rfl, rfl⟩
  case round =>
    obtain ⟨k, hk, rfl, rfl⟩ := hrel
    have hb := numB_lt (t.data.toList.take k)
    by_cases hlt : k < t.size
    · have hts := take_snoc t k hlt
      have hsn := numB_snoc (t.data.toList.take k) t[k]
      have HS : Hid (numB (t.data.toList.take (k + 1)) = numB (t.data.toList.take k) * 256 + t[k].toNat) := by rw [hts]; exact hsn
      have hlk : numB (t.data.toList.take k) < 72057594037927936 := by
        rw [List.length_take, size_toList, Nat.min_eq_left (by omega)] at hb
        have : 256 ^ k ≤ 256 ^ 7 := Nat.pow_le_pow_right (by decide) (by omega)
        omega
      have hbl := t[k].toNat_lt
      clear hts hsn hb
      generalize hv : numB (t.data.toList.take k) = v at *
      have HV := hide hv
      clear hv
      go_wp2
      go_round
      case rel => exact ⟨k + 1, by omega, by go_num, by rw [unhide HS]; go_num⟩
      case measure => simp [RowKit.intOf]; omega
    · have hkk : k = t.size := by omega
      have e : numB (t.data.toList.take k) = numB t.data.toList := by rw [List.take_of_length_le (by rw [size_toList]; omega)]
      have E := hide e
      clear e hb hkk
      go_wp2
      go_ret
      rw [unhide E]
      exact ⟨rfl, rfl⟩
theorem fixS_in (s : ByteArray) (p : Nat) (e n : Int) (h1 : 1 ≤ n) (h8 : n ≤ 8) : fixS s p e n = (numB (rawS s p e n).1.data.toList, (rawS s p e n).2.1, (rawS s p e n).2.2) := if_neg (by omega)
theorem mByte (a : Nat) (s : ByteArray) (p : Nat) (e : Int) (w : World) (h : Rd w a s p e) :
    Calls Try.prog 114 #[.pointer (some ⟨a, 0, none⟩)] w fun y w' => y = .returned (.int .u8 ((fixS s p e 1).1 % 256 : Nat)) ∧ Rt w w' a s (fixS s p e 1).2.1 (fixS s p e 1).2.2 := by
  rw [fixS_in s p e 1 (by decide) (by decide)]
  have hraw := mRaw a s p e 1 w h (by decide)
  have hsz := rawS_size s p e 1
  generalize rawS s p e 1 = q at hraw hsz ⊢
  obtain ⟨t, p', e'⟩ := q
  simp only at hraw hsz ⊢
  have ht : t.size ≤ 8 := by omega
  have HW := hide (fun u => mWhole t u ht)
  generalize numB t.data.toList = v at HW ⊢
  have HR := hide hraw
  clear hraw h hsz
  go_enter Try.func114, Try.ntmps114
  go_wp2_with fail
  refine (unhide HR).mono ?_
  rintro x w1 ⟨rfl, hp⟩
  have HP := hide hp
  clear hp
  go_wp2_with fail
  refine ((unhide HW) _).mono ?_
  rintro x w2 ⟨rfl, rfl⟩
  go_wp2
  go_ret
  refine ⟨?_, unhide HP⟩
  show Ending.returned (.int .u8 ((v : Int) % 256)) = _
  rw [Int.natCast_emod]; rfl
theorem rawS_err (s : ByteArray) (p : Nat) (e n : Int) (he : e ≠ 0) : rawS s p e n = (⟨#[]⟩, p, e) := if_pos he
set_option maxRecDepth 100000 in
set_option maxHeartbeats 800000 in
theorem mText (a : Nat) (s : ByteArray) (p : Nat) (e most : Int) (w : World) (h : Rd w a s p e) (hmo : most < 9223372036854775808) :
    Calls Try.prog 115 #[.pointer (some ⟨a, 0, none⟩), .int .i64 most] w fun y w' => y = .returned (.string (textS s p e most).1) ∧ Rt w w' a s (textS s p e most).2.1 (textS s p e most).2.2 := by
  have H := hide h
  have hle := h.le
  by_cases hm : most < 0
  · have hr : textS s p e most = (⟨#[]⟩, p, failE e 1) := if_pos hm
    rw [hr]
    have hf : failE e 1 ≠ 0 := by unfold failE; split <;> omega
    have hfb : (failE e 1 != 0) = true := by rw [bne_iff_ne]; exact hf
    have hF := mfail a s p e 1 w h
    generalize failE e 1 = e1 at *
    have HU : Hid (∀ u, Rd u a s p e1 → Calls Try.prog 113 #[.pointer (some ⟨a, 0, none⟩), .int .u64 0] u fun y w' => y = .returned (.int .u64 0) ∧ Rt u w' a s p e1) := by
      intro u hu
      have := mUint a s p e1 0 u hu
      rw [show uintS s p e1 0 = (0, p, e1) from if_pos hf] at this
      exact this
    have HW : Hid (∀ u, Rd u a s p e1 → Calls Try.prog 146 #[.pointer (some ⟨a, 0, none⟩), .int .i64 0] u fun y w' => y = .returned (.string ⟨#[]⟩) ∧ Rt u w' a s p e1) := by
      intro u hu
      have := mRaw a s p e1 0 u hu (by decide)
      rw [rawS_err s p e1 0 hf] at this
      exact this
    have HF := hide hF
    clear hr h hF hf
    go_enter Try.func115, Try.ntmps115
    go_wp2_with fail
    refine (unhide HF).mono ?_
    rintro x w1 ⟨rfl, hp⟩
    have HP := hide hp
    obtain ⟨h1, h2, h3, c0, c1, c2, f1, f2⟩ := hp.1
    clear hp c0 c2 f1 f2
    go_wp2_with fail
    refine (unhide HU _ (unhide HP).1).mono ?_
    rintro x w2 ⟨rfl, hp⟩
    have HQ := hide hp
    clear hp c1
    go_wp2_with fail
    refine (unhide HW _ (unhide HQ).1).mono ?_
    rintro x w3 ⟨rfl, hp⟩
    have HS := hide hp
    have HT := hide (hp.1.setAt p hle)
    obtain ⟨k1, k2, k3, c0, c1, c2, f1, f2⟩ := hp.1
    clear hp c0 f2
    go_wp2
    go_ret
    exact ⟨rfl, unhide HT, (((unhide HP).trans (unhide HQ)).trans (unhide HS)).2.setCell _ _⟩
  · obtain ⟨m, rfl⟩ := Int.eq_ofNat_of_zero_le (by omega : 0 ≤ most)
    unfold textS
    rw [if_neg hm, Int.toNat_natCast]
    have hu := mUint a s p e m w h
    have hul := uintS_le s p e m
    have hup := (uintS_pos s p e m hle).1
    generalize uintS s p e m = q at hu hul hup ⊢
    obtain ⟨u, p1, e1⟩ := q
    simp only at hu hul hup ⊢
    have hraw := fun (w1 : World) (h1 : Rd w1 a s p1 e1) => mRaw a s p1 e1 u w1 h1 (by omega)
    have hbad := rawS_bad s p1 e1 u
    generalize rawS s p1 e1 u = q at hraw hbad ⊢
    obtain ⟨t, p2, e2⟩ := q
    simp only at hraw hbad ⊢
    have HU := hide hu
    have HW := hide hraw
    have c1 := h.c1
    clear hu hraw h
    by_cases he2 : e2 = 0
    · subst he2
      rw [if_neg (by simp)]
      clear hbad
      go_enter Try.func115, Try.ntmps115
      go_wp2_with fail
      refine (unhide HU).mono ?_
      rintro x w2 ⟨rfl, hp⟩
      have HP := hide hp
      clear hp c1
      go_wp2_with fail
      refine ((unhide HW) _ (unhide HP).1).mono ?_
      rintro x w3 ⟨rfl, hp⟩
      have HQ := hide hp
      obtain ⟨k1, k2, k3, c0, c1, c2, f1, f2⟩ := hp.1
      clear hp c0 c1 f1 f2
      go_wp2
      go_ret
      exact ⟨rfl, (unhide HP).trans (unhide HQ)⟩
    · rw [if_pos he2]
      have ht := hbad he2
      subst ht
      clear hbad
      have heb : (e2 != 0) = true := by rw [bne_iff_ne]; exact he2
      clear he2
      go_enter Try.func115, Try.ntmps115
      go_wp2_with fail
      refine (unhide HU).mono ?_
      rintro x w2 ⟨rfl, hp⟩
      have HP := hide hp
      clear hp c1
      go_wp2_with fail
      refine ((unhide HW) _ (unhide HP).1).mono ?_
      rintro x w3 ⟨rfl, hp⟩
      have HQ := hide hp
      have HT := hide (hp.1.setAt p hle)
      obtain ⟨k1, k2, k3, c0, c1, c2, f1, f2⟩ := hp.1
      clear hp c0 f2
      go_wp2
      go_ret
      exact ⟨rfl, unhide HT, ((unhide HP).trans (unhide HQ)).2.setCell _ _⟩
end Go.Proofs.Ytkcbljmjhlnjpaa.W
