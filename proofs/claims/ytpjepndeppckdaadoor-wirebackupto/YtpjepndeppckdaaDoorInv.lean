/- What was read, written again, is the very bytes. -/
import Derived.Test.YtpjepndeppckdaaDoorFix
import Derived.Test.YtpjepndeppckdaaDoorRdT
namespace Go.Proofs.YtpjepndeppckdaaDoor
open Go.Lib

theorem rawS_ok (s : ByteArray) (p : Nat) (n : Int) (h : (rawS s p 0 n).2.2 = 0) : 0 ≤ n ∧ (p : Int) + n ≤ s.size ∧ (rawS s p 0 n).1.data.toList = (s.data.toList.drop p).take n.toNat ∧ (rawS s p 0 n).2.1 = p + n.toNat := by
  unfold rawS at h ⊢
  rw [if_neg (by simp)] at h ⊢
  by_cases h1 : n < 0
  · rw [if_pos h1] at h; cases h
  · rw [if_neg h1] at h ⊢
    by_cases h2 : (s.size : Int) - p < n
    · rw [if_pos h2] at h; cases h
    · rw [if_neg h2]
      refine ⟨by omega, by omega, ?_, rfl⟩
      rw [extract_data, show p + n.toNat - p = n.toNat from by omega]
theorem rawS_err (s : ByteArray) (p : Nat) (e n : Int) (h : (rawS s p e n).2.2 ≠ 0) : (rawS s p e n).2.1 = p := by
  unfold rawS at h ⊢
  by_cases h0 : e ≠ 0
  · rw [if_pos h0]
  · rw [if_neg h0] at h ⊢
    by_cases h1 : n < 0
    · rw [if_pos h1]
    · rw [if_neg h1] at h ⊢
      by_cases h2 : (s.size : Int) - p < n
      · rw [if_pos h2]
      · rw [if_neg h2] at h; exact absurd rfl h
theorem fixB_numB (l : List UInt8) : fixB (numB l) l.length = l := by
  generalize hn : l.length = n
  induction n generalizing l with
  | zero => rw [List.eq_nil_of_length_eq_zero hn]; rfl
  | succ n ih =>
    have hl : l ≠ [] := by intro h; rw [h] at hn; cases hn
    obtain ⟨l', b, rfl⟩ : ∃ l' b, l = l' ++ [b] := ⟨l.dropLast, l.getLast hl, (List.dropLast_concat_getLast hl).symm⟩
    have hn' : l'.length = n := by simpa using hn
    rw [fixB_snoc, numB_snoc]
    have hb := b.toNat_lt
    have e1 : (numB l' * 256 + b.toNat) / 256 = numB l' := by omega
    rw [e1, ih l' hn']
    congr 2
    apply UInt8.toNat.inj
    simp
/-- of a fixed number of bytes -/
theorem fix_ok (s : ByteArray) (p : Nat) (n : Int) (h : (fixS s p 0 n).2.2 = 0) : 1 ≤ n ∧ n ≤ 8 ∧ (p : Int) + n ≤ s.size ∧ (fixS s p 0 n).2.1 = p + n.toNat ∧ (fixS s p 0 n).1 < 256 ^ n.toNat ∧ fixB (fixS s p 0 n).1 n.toNat = (s.data.toList.drop p).take n.toNat := by
  unfold fixS at h ⊢
  by_cases hn : n < 1 ∨ 8 < n
  · rw [if_pos hn] at h; cases h
  · rw [if_neg hn] at h ⊢
    simp only at h ⊢
    obtain ⟨h1, h2, h3, h4⟩ := rawS_ok s p n h
    have hl : ((s.data.toList.drop p).take n.toNat).length = n.toNat := by rw [List.length_take, List.length_drop, size_toList]; omega
    refine ⟨by omega, by omega, h2, h4, ?_, ?_⟩
    · rw [h3]
      have := numB_lt ((s.data.toList.drop p).take n.toNat)
      rw [hl] at this
      exact this
    · rw [h3]
      have := fixB_numB ((s.data.toList.drop p).take n.toNat)
      rw [hl] at this
      exact this
theorem fix_err (s : ByteArray) (p : Nat) (e n : Int) (h : (fixS s p e n).2.2 ≠ 0) : (fixS s p e n).2.1 = p := by
  unfold fixS at h ⊢
  by_cases hn : n < 1 ∨ 8 < n
  · rw [if_pos hn]
  · rw [if_neg hn] at h ⊢
    exact rawS_err s p e n h
theorem dg_inv (l : List UInt8) : ∀ (i v x u : Nat), i ≤ 9 → dg l i v = (x, u, 0) → ∃ y, x = v + y * 128 ^ i ∧ i < u ∧ u ≤ i + l.length ∧ (0 < i → 0 < y) ∧ uintB (9 - i) y = l.take (u - i) := by
  induction l with
  | nil => intro i v x u hi h; simp [dg] at h
  | cons d l ih =>
    intro i v x u hi h
    rw [dg, if_neg (by omega)] at h
    have hd := d.toNat_lt
    have ofd : UInt8.ofNat d.toNat = d := by simp
    by_cases h1 : i = 9 ∧ 1 < d.toNat
    · rw [if_pos h1] at h; simp at h
    · rw [if_neg h1] at h
      by_cases h2 : 128 ≤ d.toNat
      · rw [if_pos h2] at h
        have hi9 : i < 9 := by omega
        obtain ⟨y, hx, hu, hul, hy0, hy⟩ := ih (i + 1) _ x u (by omega) h
        have hy1 := hy0 (by omega)
        refine ⟨d.toNat % 128 + 128 * y, ?_, by omega, by simp; omega, by omega, ?_⟩
        · rw [hx, Nat.pow_succ, Nat.add_mul, Nat.mul_comm 128 y, Nat.mul_assoc, Nat.mul_comm 128 (128 ^ i)]; omega
        · rw [show 9 - i = (9 - (i + 1)) + 1 from by omega, uintB, if_neg (by omega)]
          rw [show (d.toNat % 128 + 128 * y) / 128 = y from by omega, hy]
          rw [show u - i = (u - (i + 1)) + 1 from by omega, List.take_succ_cons]
          congr 1
          rw [show (d.toNat % 128 + 128 * y) % 128 + 128 = d.toNat from by omega]
          exact ofd
      · rw [if_neg h2] at h
        by_cases h3 : 0 < i ∧ d.toNat = 0
        · rw [if_pos h3] at h; simp at h
        · rw [if_neg h3] at h
          simp only [Prod.mk.injEq, and_true] at h
          obtain ⟨rfl, rfl⟩ := h
          refine ⟨d.toNat, by rw [Nat.mod_eq_of_lt (by omega)], by omega, by simp, by omega, ?_⟩
          rw [show i + 1 - i = 1 from by omega, List.take_succ_cons, List.take_zero]
          have : ∀ f, uintB f d.toNat = [d] := by
            intro f
            cases f with
            | zero => rw [uintB, ofd]
            | succ f => rw [uintB, if_pos (by omega), ofd]
          exact this _
/-- to the base 128 -/
theorem uint_ok (s : ByteArray) (p most : Nat) (h : (uintS s p 0 most).2.2 = 0) : p ≤ (uintS s p 0 most).2.1 ∧ ((uintS s p 0 most).2.1 ≤ s.size ∨ s.size < p) ∧ uintB 9 (uintS s p 0 most).1 = (s.data.toList.drop p).take ((uintS s p 0 most).2.1 - p) := by
  unfold uintS at h ⊢
  rw [if_neg (by simp)] at h ⊢
  by_cases h1 : (dg (s.data.toList.drop p) 0 0).2.2 ≠ 0
  · rw [if_pos h1] at h; exact absurd h h1
  · rw [if_neg h1] at h ⊢
    by_cases h2 : most < (dg (s.data.toList.drop p) 0 0).1
    · rw [if_pos h2] at h; cases h
    · rw [if_neg h2]
      have hz : (dg (s.data.toList.drop p) 0 0).2.2 = 0 := by simpa using h1
      obtain ⟨y, hx, hu, hul, _, hy⟩ := dg_inv (s.data.toList.drop p) 0 0 (dg (s.data.toList.drop p) 0 0).1 (dg (s.data.toList.drop p) 0 0).2.1 (by omega) (by rw [← hz])
      rw [List.length_drop, size_toList] at hul
      simp only at hx ⊢
      refine ⟨by omega, by omega, ?_⟩
      rw [hx]
      simp only [Nat.zero_add, Nat.pow_zero, Nat.mul_one, Nat.sub_zero] at hy ⊢
      rw [hy]
      congr 1
      omega
theorem uint_err (s : ByteArray) (p : Nat) (e : Int) (most : Nat) (h : (uintS s p e most).2.2 ≠ 0) : (uintS s p e most).2.1 = p := by
  unfold uintS at h ⊢
  by_cases h0 : e ≠ 0
  · rw [if_pos h0]
  · rw [if_neg h0] at h ⊢
    by_cases h1 : (dg (s.data.toList.drop p) 0 0).2.2 ≠ 0
    · rw [if_pos h1]
    · rw [if_neg h1] at h ⊢
      by_cases h2 : most < (dg (s.data.toList.drop p) 0 0).1
      · rw [if_pos h2]
      · rw [if_neg h2] at h; exact absurd rfl h
theorem zig_zag (u : Nat) : zig (zag u) = u := by
  unfold zig zag
  by_cases h : u % 2 = 0
  · rw [if_pos h, if_pos (by omega)]; omega
  · rw [if_neg h, if_neg (by omega)]; omega
theorem zag_rng (u : Nat) (h : u < 18446744073709551616) : -9223372036854775808 ≤ zag u ∧ zag u < 9223372036854775808 := by
  unfold zag
  split <;> omega
theorem flt_ok (s : ByteArray) (p : Nat) (h : (fltS s p 0).2.2 = 0) : (p : Int) + 8 ≤ s.size ∧ (fltS s p 0).2.1 = p + 8 ∧ fixB (fltB (fltS s p 0).1) 8 = (s.data.toList.drop p).take 8 := by
  unfold fltS at h ⊢
  by_cases hn : isNan (fixS s p 0 8).1 = true ∧ (fixS s p 0 8).1 ≠ 9221120237041090560
  · rw [if_pos hn] at h
    simp only [failE] at h
    split at h
    · cases h
    · exact absurd h (by assumption)
  · rw [if_neg hn] at h ⊢
    obtain ⟨_, _, h3, h4, _, h6⟩ := fix_ok s p 8 h
    refine ⟨h3, h4, ?_⟩
    have e : fltB (fixS s p 0 8).1 = (fixS s p 0 8).1 := by
      unfold fltB
      by_cases hb : isNan (fixS s p 0 8).1 = true
      · rw [if_pos hb]
        by_cases hc : (fixS s p 0 8).1 = 9221120237041090560
        · rw [hc]
        · exact absurd ⟨hb, hc⟩ hn
      · rw [if_neg hb]
    rw [e]
    exact h6
theorem flt_err (s : ByteArray) (p : Nat) (e : Int) (h : (fltS s p e).2.2 ≠ 0) : (fltS s p e).2.1 = p := by
  unfold fltS at h ⊢
  by_cases hn : isNan (fixS s p e 8).1 = true ∧ (fixS s p e 8).1 ≠ 9221120237041090560
  · rw [if_pos hn]
  · rw [if_neg hn] at h ⊢
    exact fix_err s p e 8 h
theorem text_ok (s : ByteArray) (p : Nat) (most : Int) (h : (textS s p 0 most).2.2 = 0) : p ≤ (textS s p 0 most).2.1 ∧ (textS s p 0 most).2.1 ≤ s.size ∧ uintB 9 (textS s p 0 most).1.size ++ (textS s p 0 most).1.data.toList = (s.data.toList.drop p).take ((textS s p 0 most).2.1 - p) := by
  unfold textS at h ⊢
  by_cases hm : most < 0
  · rw [if_pos hm] at h; cases h
  · rw [if_neg hm] at h ⊢
    by_cases h2 : (rawS s (uintS s p 0 most.toNat).2.1 (uintS s p 0 most.toNat).2.2 (uintS s p 0 most.toNat).1).2.2 ≠ 0
    · rw [if_pos h2] at h; exact absurd h h2
    · rw [if_neg h2] at h ⊢
      have he : (uintS s p 0 most.toNat).2.2 = 0 := by
        by_cases he : (uintS s p 0 most.toNat).2.2 = 0
        · exact he
        · exfalso
          have : (rawS s (uintS s p 0 most.toNat).2.1 (uintS s p 0 most.toNat).2.2 (uintS s p 0 most.toNat).1).2.2 = (uintS s p 0 most.toNat).2.2 := by unfold rawS; rw [if_pos he]
          rw [this] at h
          exact he h
      obtain ⟨u1, u2, u3⟩ := uint_ok s p most.toNat he
      rw [he] at h ⊢
      generalize uintS s p 0 most.toNat = q at *
      obtain ⟨v, p1, e1⟩ := q
      simp only at *
      obtain ⟨r1, r2, r3, r4⟩ := rawS_ok s p1 v h
      have hsz : (rawS s p1 0 (v : Int)).1.size = v := by
        rw [← size_toList, r3, List.length_take, List.length_drop, size_toList]
        simp only [Int.toNat_natCast]
        omega
      rw [hsz, r4, r3, u3]
      simp only [Int.toNat_natCast]
      refine ⟨by omega, by omega, ?_⟩
      rw [show p1 + v - p = (p1 - p) + v from by omega, List.take_add, List.drop_drop, show p + (p1 - p) = p1 from by omega]
theorem text_err (s : ByteArray) (p : Nat) (e most : Int) (h : (textS s p e most).2.2 ≠ 0) : (textS s p e most).2.1 = p := by
  unfold textS at h ⊢
  by_cases hm : most < 0
  · rw [if_pos hm]
  · rw [if_neg hm] at h ⊢
    by_cases h2 : (rawS s (uintS s p e most.toNat).2.1 (uintS s p e most.toNat).2.2 (uintS s p e most.toNat).1).2.2 ≠ 0
    · rw [if_pos h2]
    · rw [if_neg h2] at h; exact absurd h h2

theorem ag_byte (s : ByteArray) (p : Nat) (bs : List UInt8) (he : (fixS s p 0 1).2.2 = 0) : bs ++ [UInt8.ofNat (((fixS s p 0 1).1 : Int) % 256).toNat] = bs ++ (s.data.toList.drop p).take ((fixS s p 0 1).2.1 - p) ∧ p ≤ (fixS s p 0 1).2.1 := by
  obtain ⟨-, -, -, f4, f5, f6⟩ := fix_ok s p 1 he
  have e1 : (1 : Int).toNat = 1 := rfl
  rw [e1] at f4 f5 f6
  rw [f4, show p + 1 - p = 1 from by omega, ← f6]
  refine ⟨?_, by omega⟩
  congr 1
  have hlt : (fixS s p 0 1).1 < 256 := f5
  have e2 : (((fixS s p 0 1).1 : Int) % 256).toNat = (fixS s p 0 1).1 := by omega
  rw [e2]
  simp [fixB]
theorem wrap16 (x : Nat) (h : x < 65536) : ((IntKind.i16.wrap (x : Int)) % 65536).toNat = x := by
  simp only [IntKind.wrap, IntKind.bits, IntKind.signed]
  simp
  omega
theorem ag_small (s : ByteArray) (p : Nat) (bs : List UInt8) (he : (fixS s p 0 2).2.2 = 0) : bs ++ fixB ((IntKind.i16.wrap ((fixS s p 0 2).1 : Nat)) % 65536).toNat 2 = bs ++ (s.data.toList.drop p).take ((fixS s p 0 2).2.1 - p) ∧ p ≤ (fixS s p 0 2).2.1 := by
  obtain ⟨-, -, -, f4, f5, f6⟩ := fix_ok s p 2 he
  have e1 : (2 : Int).toNat = 2 := rfl
  rw [e1] at f4 f5 f6
  rw [f4, show p + 2 - p = 2 from by omega, ← f6, wrap16 _ f5]
  exact ⟨rfl, by omega⟩
theorem ag_fixed (s : ByteArray) (p : Nat) (n : Int) (bs : List UInt8) (he : (fixS s p 0 n).2.2 = 0) : bs ++ fixB (fixS s p 0 n).1 n.toNat = bs ++ (s.data.toList.drop p).take ((fixS s p 0 n).2.1 - p) ∧ p ≤ (fixS s p 0 n).2.1 := by
  obtain ⟨-, -, -, f4, f5, f6⟩ := fix_ok s p n he
  rw [f4, show p + n.toNat - p = n.toNat from by omega, ← f6]
  exact ⟨rfl, by omega⟩
theorem fix_lt (s : ByteArray) (p : Nat) (e n : Int) (h1 : 1 ≤ n) (h8 : n ≤ 8) : (fixS s p e n).1 < 256 ^ n.toNat := by
  unfold fixS
  rw [if_neg (by omega)]
  have h := numB_lt (rawS s p e n).1.data.toList
  rw [size_toList] at h
  have hz := rawS_size s p e n
  exact Nat.lt_of_lt_of_le h (Nat.pow_le_pow_right (by decide) (by omega))
theorem ag_uint (s : ByteArray) (p most : Nat) (bs : List UInt8) (he : (uintS s p 0 most).2.2 = 0) : bs ++ uintB 9 ((uintS s p 0 most).1 : Int).toNat = bs ++ (s.data.toList.drop p).take ((uintS s p 0 most).2.1 - p) ∧ p ≤ (uintS s p 0 most).2.1 := by
  obtain ⟨u1, u2, u3⟩ := uint_ok s p most he
  rw [Int.toNat_natCast, u3]
  exact ⟨rfl, u1⟩
theorem ag_int (s : ByteArray) (p most : Nat) (bs : List UInt8) (he : (uintS s p 0 most).2.2 = 0) : bs ++ uintB 9 (zig (zag (uintS s p 0 most).1)) = bs ++ (s.data.toList.drop p).take ((uintS s p 0 most).2.1 - p) ∧ p ≤ (uintS s p 0 most).2.1 := by
  obtain ⟨u1, u2, u3⟩ := uint_ok s p most he
  rw [zig_zag, u3]
  exact ⟨rfl, u1⟩
theorem ag_float (s : ByteArray) (p : Nat) (bs : List UInt8) (he : (fltS s p 0).2.2 = 0) : bs ++ fixB (fltB (fltS s p 0).1) 8 = bs ++ (s.data.toList.drop p).take ((fltS s p 0).2.1 - p) ∧ p ≤ (fltS s p 0).2.1 := by
  obtain ⟨f1, f2, f3⟩ := flt_ok s p he
  rw [f2, show p + 8 - p = 8 from by omega, f3]
  exact ⟨rfl, by omega⟩
theorem ag_text (s : ByteArray) (p : Nat) (n : Int) (bs : List UInt8) (he : (textS s p 0 n).2.2 = 0) : bs ++ (uintB 9 (textS s p 0 n).1.size ++ (textS s p 0 n).1.data.toList) = bs ++ (s.data.toList.drop p).take ((textS s p 0 n).2.1 - p) ∧ p ≤ (textS s p 0 n).2.1 := by
  obtain ⟨t1, t2, t3⟩ := text_ok s p n he
  rw [t3]
  exact ⟨rfl, t1⟩
theorem ag_raw (s : ByteArray) (p : Nat) (n : Int) (bs : List UInt8) (he : (rawS s p 0 n).2.2 = 0) : bs ++ (rawS s p 0 n).1.data.toList = bs ++ (s.data.toList.drop p).take ((rawS s p 0 n).2.1 - p) ∧ p ≤ (rawS s p 0 n).2.1 := by
  obtain ⟨r1, r2, r3, r4⟩ := rawS_ok s p n he
  rw [r4, r3, show p + n.toNat - p = n.toNat from by omega]
  exact ⟨rfl, by omega⟩
theorem rawS_len (s : ByteArray) (p : Nat) (e n : Int) (hp : p ≤ s.size) : (rawS s p e n).1.size + p ≤ s.size := by
  have h0 : ({ data := #[] } : ByteArray).size = 0 := rfl
  unfold rawS
  split
  · rw [h0]; omega
  · split
    · rw [h0]; omega
    · split
      · rw [h0]; omega
      · simp; omega
theorem textS_len (s : ByteArray) (p : Nat) (e n : Int) (hp : p ≤ s.size) : (textS s p e n).1.size + p ≤ s.size := by
  have h0 : ({ data := #[] } : ByteArray).size = 0 := rfl
  unfold textS
  split
  · rw [h0]; omega
  · split
    · rw [h0]; omega
    · have h1 := uintS_pos s p e n.toNat hp
      have := rawS_len s (uintS s p e n.toNat).2.1 (uintS s p e n.toNat).2.2 (uintS s p e n.toNat).1 h1.1
      omega
end Go.Proofs.YtpjepndeppckdaaDoor
