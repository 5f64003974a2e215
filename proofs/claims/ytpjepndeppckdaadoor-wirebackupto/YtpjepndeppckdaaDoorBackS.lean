/- What taking an item answers: there and back, or cut off. -/
import Derived.Test.YtpjepndeppckdaaDoorBack
import Derived.Test.YtpjepndeppckdaaDoorBackB
import Derived.Test.YtpjepndeppckdaaDoorBackC
namespace Go.Proofs.YtpjepndeppckdaaDoor
open Go.RowKit Go.Lib

/-- whether the item is the same one, how many bytes are taken, the error -/
def bkS (x : It) (s : ByteArray) (p : Nat) (e : Int) : Bool × Nat × Int :=
  if x.kind = 0 then (decide ((((fixS s p e 1).1 : Int) % 256) = (x.v : Int) % 256), (fixS s p e 1).2)
  else if x.kind = 1 then (IntKind.i16.wrap ((fixS s p e 2).1 : Nat) == IntKind.i16.wrap x.v, (fixS s p e 2).2)
  else if x.kind = 2 then (((fixS s p e x.n).1 : Int) == (x.v : Int), (fixS s p e x.n).2)
  else if x.kind = 3 then (((uintS s p e x.v).1 : Int) == (x.v : Int), (uintS s p e x.v).2)
  else if x.kind = 4 then (zag (uintS s p e 18446744073709551615).1 == IntKind.i64.wrap x.v, (uintS s p e 18446744073709551615).2)
  else if x.kind = 5 then (sameB (fltS s p e).1 x.v, (fltS s p e).2)
  else if x.kind = 6 then ((textS s p e x.s.size).1.toList == x.s.toList, (textS s p e x.s.size).2)
  else ((rawS s p e x.s.size).1.toList == x.s.toList, (rawS s p e x.s.size).2)
theorem back_walk (x : It) (hfit : fitB x = true) (ht : x.s.size < 9223372036854775808) (a B p : Nat) (s : ByteArray) (e : Int) (w : World) (hr : Rd w a s p e) (hB : B ≤ w.heap.size) (hBa : B ≤ a) :
    Calls Tryd.prog 23 #[.pointer (some ⟨a, 0, none⟩), x.val] w fun y w' => y = .returned (.bool (bkS x s p e).1) ∧ Bk w w' a B s (bkS x s p e).2.1 (bkS x s p e).2.2 := by
  obtain ⟨who, kind, n, v, t⟩ := x
  unfold It.val bkS
  simp only
  unfold fitB at hfit
  simp only at hfit ht
  by_cases k0 : kind = 0
  · subst k0; rw [if_pos rfl]; exact back0 who n v t a B p s e w hr hB hBa
  · rw [if_neg k0]
    by_cases k1 : kind = 1
    · subst k1; rw [if_pos rfl]; exact back1 who n v t a B p s e w hr hB hBa
    · rw [if_neg k1]
      by_cases k2 : kind = 2
      · subst k2; rw [if_pos rfl]; exact back2 who n v t a B p s e w hr hB hBa
      · rw [if_neg k2]
        rw [if_neg k2, decide_eq_true_eq] at hfit
        by_cases k3 : kind = 3
        · subst k3; rw [if_pos rfl]; exact back3 who n v t a B p s e w hr hB hBa
        · rw [if_neg k3]
          by_cases k4 : kind = 4
          · subst k4; rw [if_pos rfl]; exact back4 who n v t a B p s e w hr hB hBa
          · rw [if_neg k4]
            by_cases k5 : kind = 5
            · subst k5; rw [if_pos rfl]; exact back5 who n v t a B p s e w hr hB hBa
            · rw [if_neg k5]
              by_cases k6 : kind = 6
              · subst k6; rw [if_pos rfl]; exact back6 who n v t ht a B p s e w hr hB hBa
              · rw [if_neg k6]
                obtain rfl : kind = 7 := by omega
                exact back7 who n v t a B p s e w hr hB hBa
theorem wrap_mod16 (v : Nat) : IntKind.i16.wrap ((v % 65536 : Nat) : Int) = IntKind.i16.wrap v := by
  simp only [IntKind.wrap, IntKind.bits, IntKind.signed]
  simp
theorem wrap64_eq (v : Int) : wrap64 v = IntKind.i64.wrap v := by rw [IntKind.wrap_i64]; unfold wrap64; rfl
theorem mk_toList (t : ByteArray) : (ByteArray.mk t.data.toList.toArray) = t := by
  apply ByteArray.ext; simp
theorem bk_fwd (x : It) (hx : x.Ok) (hfit : fitB x = true) (hsz : x.s.size < 9223372036854775808) (s : ByteArray) (p : Nat) (t : List UInt8) (hp : p ≤ s.size) (h : s.data.toList.drop p = x.form ++ t) : bkS x s p 0 = (true, p + x.form.length, 0) := by
  obtain ⟨who, kind, n, v, u⟩ := x
  have hv := hx.v
  unfold It.form at h ⊢
  unfold bkS
  unfold fitB at hfit
  simp only at hfit h hv hsz ⊢
  by_cases k0 : kind = 0
  · rw [if_pos k0] at h ⊢
    rw [if_pos k0]
    have e1 : [UInt8.ofNat (v % 256)] = fixB (v % 256) 1 := by simp [fixB]
    rw [e1] at h
    have hf := fix_fwd hp h (by decide) (by decide) (by omega)
    rw [show ((1 : Nat) : Int) = 1 from rfl] at hf
    rw [hf]
    refine Prod.ext ?_ rfl
    simp
  · rw [if_neg k0] at h ⊢
    rw [if_neg k0]
    by_cases k1 : kind = 1
    · rw [if_pos k1] at h ⊢
      rw [if_pos k1]
      have hf := fix_fwd hp h (by decide) (by decide) (by omega)
      rw [show ((2 : Nat) : Int) = 2 from rfl] at hf
      rw [hf, fixB_length]
      refine Prod.ext ?_ rfl
      show (IntKind.i16.wrap _ == _) = true
      rw [wrap_mod16]; simp
    · rw [if_neg k1] at h ⊢
      rw [if_neg k1]
      by_cases k2 : kind = 2
      · rw [if_pos k2] at h ⊢ hfit
        rw [if_pos k2]
        rw [decide_eq_true_eq] at hfit
        obtain ⟨f1, f2, f3⟩ := hfit
        obtain ⟨m, rfl⟩ := Int.eq_ofNat_of_zero_le (by omega : 0 ≤ n)
        rw [Int.toNat_natCast] at f3 h ⊢
        have hf := fix_fwd hp h (by omega) (by omega) f3
        rw [hf, fixB_length]
        simp
      · rw [if_neg k2] at h ⊢ hfit
        rw [if_neg k2]
        by_cases k3 : kind = 3
        · rw [if_pos k3] at h ⊢
          rw [if_pos k3, uint_fwd h hv (Nat.le_refl _)]
          simp
        · rw [if_neg k3] at h ⊢
          rw [if_neg k3]
          by_cases k4 : kind = 4
          · rw [if_pos k4] at h ⊢
            have hz := zig_lt _ (i64_rng v).1 (i64_rng v).2
            rw [if_pos k4, uint_fwd h hz (by omega), zag_zig, wrap64_eq]
            simp
          · rw [if_neg k4] at h ⊢
            rw [if_neg k4]
            by_cases k5 : kind = 5
            · rw [if_pos k5] at h ⊢
              rw [if_pos k5, flt_fwd hp h hv, fixB_length]
              refine Prod.ext ?_ rfl
              show sameB (fltB v) v = true
              unfold sameB fltB
              by_cases hn : isNan v = true
              · rw [if_pos hn, nanC, hn]; rfl
              · rw [if_neg hn]; simp
            · rw [if_neg k5] at h ⊢
              rw [if_neg k5]
              by_cases k6 : kind = 6
              · rw [if_pos k6] at h ⊢
                rw [if_pos k6]
                have hu := size_toList u
                rw [← hu] at h ⊢
                rw [List.append_assoc] at h
                rw [text_fwd hp h (by omega), mk_toList, List.length_append]
                simp
              · rw [if_neg k6] at h ⊢
                rw [if_neg k6]
                have hu := size_toList u
                rw [← hu, raw_fwd hp h, mk_toList]
                simp
theorem bk_cut (x : It) (hx : x.Ok) (hfit : fitB x = true) (hsz : x.s.size < 9223372036854775808) (s : ByteArray) (p m : Nat) (hp : p ≤ s.size) (h : s.data.toList.drop p = x.form.take m) (hm : m < x.form.length) : (bkS x s p 0).2.2 = 10 := by
  obtain ⟨who, kind, n, v, u⟩ := x
  have hv := hx.v
  have hlen := congrArg List.length h
  rw [List.length_take, Nat.min_eq_left (by omega)] at hlen
  unfold It.form at h hm
  unfold bkS
  unfold fitB at hfit
  simp only at hfit h hv hsz hm ⊢
  by_cases k0 : kind = 0
  · rw [if_pos k0] at hm ⊢
    have hf := fix_cut (n := 1) hp (by simpa [hlen] using hm) (by decide) (by decide)
    rw [show ((1 : Nat) : Int) = 1 from rfl] at hf
    rw [hf]
  · rw [if_neg k0] at h hm ⊢
    by_cases k1 : kind = 1
    · rw [if_pos k1] at hm ⊢
      rw [fixB_length] at hm
      have hf := fix_cut (n := 2) hp (by omega) (by decide) (by decide)
      rw [show ((2 : Nat) : Int) = 2 from rfl] at hf
      rw [hf]
    · rw [if_neg k1] at h hm ⊢
      by_cases k2 : kind = 2
      · rw [if_pos k2] at hm ⊢ hfit
        rw [decide_eq_true_eq] at hfit
        obtain ⟨f1, f2, f3⟩ := hfit
        obtain ⟨q, rfl⟩ := Int.eq_ofNat_of_zero_le (by omega : 0 ≤ n)
        rw [fixB_length, Int.toNat_natCast] at hm
        rw [fix_cut (n := q) hp (by omega) (by omega) (by omega)]
      · rw [if_neg k2] at h hm ⊢
        by_cases k3 : kind = 3
        · rw [if_pos k3] at h hm ⊢
          rw [uint_cut h hv hm]
        · rw [if_neg k3] at h hm ⊢
          by_cases k4 : kind = 4
          · rw [if_pos k4] at h hm ⊢
            rw [uint_cut h (zig_lt _ (i64_rng v).1 (i64_rng v).2) hm]
          · rw [if_neg k4] at h hm ⊢
            by_cases k5 : kind = 5
            · rw [if_pos k5] at hm ⊢
              rw [fixB_length] at hm
              rw [flt_cut hp (by omega)]
            · rw [if_neg k5] at h hm ⊢
              by_cases k6 : kind = 6
              · rw [if_pos k6] at h hm ⊢
                have hu := size_toList u
                rw [← hu] at h hm ⊢
                rw [List.length_append] at hm
                rw [text_cut hp h hm (by omega)]
              · rw [if_neg k6] at h hm ⊢
                have hu := size_toList u
                rw [← hu, raw_cut hp (by omega)]
theorem bk_bad (x : It) (s : ByteArray) (p : Nat) (e : Int) (he : e ≠ 0) : (bkS x s p e).2.2 = e := by
  have hraw : ∀ q n, (rawS s q e n).2.2 = e := fun q n => by unfold rawS; rw [if_pos he]
  have hfix : ∀ n, (fixS s p e n).2.2 = e := fun n => by
    unfold fixS
    split
    · show failE e 1 = e
      unfold failE; rw [if_neg he]
    · exact hraw p n
  have huint : ∀ m, (uintS s p e m).2.2 = e := fun m => by unfold uintS; rw [if_pos he]
  unfold bkS
  repeat' split
  · exact hfix 1
  · exact hfix 2
  · exact hfix x.n
  · exact huint x.v
  · exact huint _
  · show (fltS s p e).2.2 = e
    unfold fltS
    split
    · show failE _ 4 = e
      rw [hfix 8]; unfold failE; rw [if_neg he]
    · exact hfix 8
  · show (textS s p e _).2.2 = e
    unfold textS
    split
    · show failE e 1 = e
      unfold failE; rw [if_neg he]
    · split
      · show (rawS s _ _ _).2.2 = e
        rw [huint]; exact hraw _ _
      · rw [huint]; exact hraw _ _
  · exact hraw p _
end Go.Proofs.YtpjepndeppckdaaDoor
