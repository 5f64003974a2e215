/- The document's reader: floats, numbers to the base 128, texts. -/
import Derived.Test.YtpjepndeppckdaaMRdF
namespace Go.Proofs.Ytpjepndeppckdaa
open Go.RowKit Go.Lib

set_option maxRecDepth 100000 in
set_option maxHeartbeats 800000 in
theorem mFloat (a : Nat) (s : ByteArray) (p : Nat) (e : Int) (w : World) (h : Rd w a s p e) :
    Calls Try.prog 54 #[.pointer (some ⟨a, 0, none⟩)] w fun y w' => y = .returned (.float .f64 (fltS s p e).1) ∧ Rt w w' a s (fltS s p e).2.1 (fltS s p e).2.2 := by
  have hle := h.le
  unfold fltS
  rw [fixS_in s p e 8 (by decide) (by decide)]
  have hraw := mRaw a s p e 8 w h (by decide)
  have hsz := rawS_size s p e 8
  generalize rawS s p e 8 = q at hraw hsz ⊢
  obtain ⟨t, p', e'⟩ := q
  simp only at hraw hsz ⊢
  have HW := hide (fun u => mWhole t u (by omega))
  generalize numB t.data.toList = v at HW ⊢
  have HR := hide hraw
  have c1 := h.c1
  clear hraw h hsz
  by_cases hn : isNan v = true
  · have ho : (FloatKind.f64.format.order v v != some .eq) = true := hn
    by_cases ht : v = 9221120237041090560
    · rw [if_neg (fun h => h.2 ht)]
      have hb : ((v : Int) != 9221120237041090560) = false := by rw [ht]; rfl
      clear ht hn
      go_enter Try.func54, Try.ntmps54
      go_wp2_with fail
      refine (unhide HR).mono ?_
      rintro x w1 ⟨rfl, hp⟩
      have HP := hide hp
      clear hp
      go_wp2_with fail
      refine ((unhide HW) _).mono ?_
      rintro x w2 ⟨rfl, rfl⟩
      go_wp2_with fail
      refine ((unhide HW) _).mono ?_
      rintro x w2 ⟨rfl, rfl⟩
      go_wp2
      go_ret
      exact ⟨rfl, unhide HP⟩
    · rw [if_pos ⟨hn, ht⟩]
      have hb : ((v : Int) != 9221120237041090560) = true := by rw [bne_iff_ne]; omega
      clear ht hn
      go_enter Try.func54, Try.ntmps54
      go_wp2_with fail
      refine (unhide HR).mono ?_
      rintro x w1 ⟨rfl, hp⟩
      have HP := hide hp
      clear hp
      go_wp2_with fail
      refine ((unhide HW) _).mono ?_
      rintro x w2 ⟨rfl, rfl⟩
      go_wp2_with fail
      refine ((unhide HW) _).mono ?_
      rintro x w2 ⟨rfl, rfl⟩
      have HQ := hide ((unhide HP).1.setAt p hle)
      obtain ⟨h1, h2, h3, k0, k1, k2, f1, f2⟩ := (unhide HP).1
      clear k0 k2 f2 c1
      go_wp2_with fail
      refine (mfail a s p e' 4 _ (unhide HQ)).mono ?_
      rintro x w3 ⟨rfl, hp⟩
      have HS := hide hp
      clear hp
      go_wp2
      go_ret
      exact ⟨rfl, (unhide HS).1, ((unhide HP).2.setCell _ _).trans (unhide HS).2 (.inl rfl)⟩
  · rw [if_neg (fun h => hn h.1)]
    have ho : FloatKind.f64.format.order v v = some .eq := by simpa [isNan] using hn
    clear hn
    go_enter Try.func54, Try.ntmps54
    go_wp2_with fail
    refine (unhide HR).mono ?_
    rintro x w1 ⟨rfl, hp⟩
    have HP := hide hp
    clear hp
    go_wp2_with fail
    refine ((unhide HW) _).mono ?_
    rintro x w2 ⟨rfl, rfl⟩
    go_wp2_with fail
    go_ret
    exact ⟨rfl, unhide HP⟩
/-- how many bytes a number's digits are -/
def dl : List UInt8 → Nat → Nat
  | [], i => i
  | d :: l, i => if 10 ≤ i then i else if d.toNat < 128 then i + 1 else dl l (i + 1)
theorem dl_ge (l : List UInt8) (i : Nat) : i ≤ dl l i := by
  induction l generalizing i with
  | nil => simp [dl]
  | cons d l ih =>
    rw [dl]
    split
    · simp
    · split
      · omega
      · have := ih (i + 1); omega
theorem dl_le (l : List UInt8) (i : Nat) : dl l i ≤ i + l.length := by
  induction l generalizing i with
  | nil => simp [dl]
  | cons d l ih =>
    rw [dl]
    split
    · simp
    · split
      · simp
      · have := ih (i + 1); simp; omega
theorem dl_ten (l : List UInt8) (i : Nat) (h : i ≤ 10) : dl l i ≤ 10 := by
  induction l generalizing i with
  | nil => simpa [dl]
  | cons d l ih =>
    rw [dl]
    split
    · exact h
    · split
      · omega
      · exact ih (i + 1) (by omega)
/-- the number that digits are, the lowest first -/
def low : List UInt8 → Nat
  | [] => 0
  | d :: l => d.toNat % 128 + 128 * low l
theorem low_lt (l : List UInt8) : low l < 128 ^ l.length := by
  induction l with
  | nil => simp [low]
  | cons d l ih =>
    rw [low, List.length_cons, Nat.pow_succ]
    omega
/-- what digits say -/
def fin (D : List UInt8) (i v : Nat) : Nat × Nat × Int :=
  if D.length + i < 10 ∧ (D = [] ∨ 128 ≤ (D.getLastD 0).toNat) then (0, 0, 10)
  else if (D.length + i = 10 ∧ 1 < (D.getLastD 0).toNat) ∨ (1 < D.length + i ∧ (D.getLastD 0).toNat = 0) then (0, 0, 11)
  else (v + low D * 128 ^ i, i + D.length, 0)
theorem take_dl (d : UInt8) (l : List UInt8) (i : Nat) (h1 : ¬ 10 ≤ i) (h2 : ¬ d.toNat < 128) : (d :: l).take (dl (d :: l) i - i) = d :: l.take (dl l (i + 1) - (i + 1)) := by
  rw [dl, if_neg h1, if_neg h2]
  have := dl_ge l (i + 1)
  obtain ⟨m, hm⟩ : ∃ m, dl l (i + 1) = i + 1 + m := ⟨dl l (i + 1) - (i + 1), by omega⟩
  rw [hm, show i + 1 + m - i = m + 1 from by omega, show i + 1 + m - (i + 1) = m from by omega, List.take_succ_cons]
theorem dg_fin (l : List UInt8) (i v : Nat) (hi : i ≤ 9) : dg l i v = fin (l.take (dl l i - i)) i v := by
  induction l generalizing i v with
  | nil =>
    have : fin ([].take (dl [] i - i)) i v = (0, 0, 10) := by
      unfold fin
      rw [if_pos ⟨by simp; omega, .inl (by simp)⟩]
    rw [this]; rfl
  | cons d l ih =>
    by_cases hd : d.toNat < 128
    · have ht : (d :: l).take (dl (d :: l) i - i) = [d] := by
        rw [dl, if_neg (by omega), if_pos hd, show i + 1 - i = 1 from by omega]; rfl
      rw [ht]
      have hl : ([d] : List UInt8).getLastD 0 = d := rfl
      unfold fin
      rw [hl]
      simp only [List.length_singleton, low]
      have hA : ¬ (1 + i < 10 ∧ ([d] = ([] : List UInt8) ∨ 128 ≤ d.toNat)) := by
        rintro ⟨_, h | h⟩
        · exact absurd h (by simp)
        · omega
      rw [if_neg hA, dg, if_neg (by omega)]
      by_cases h9 : i = 9 ∧ 1 < d.toNat
      · rw [if_pos h9, if_pos (by omega)]
      · rw [if_neg h9, if_neg (by omega)]
        by_cases h0 : 0 < i ∧ d.toNat = 0
        · rw [if_pos h0, if_pos (by omega)]
        · rw [if_neg h0, if_neg (by omega)]
          simp
    · by_cases h9 : i = 9
      · subst h9
        have ht : (d :: l).take (dl (d :: l) 9 - 9) = [d] := by
          rw [take_dl d l 9 (by omega) hd]
          have h1 := dl_ge l (9 + 1)
          have h2 := dl_ten l (9 + 1) (by omega)
          rw [show dl l (9 + 1) - (9 + 1) = 0 from by omega, List.take_zero]
        rw [ht]
        have hl : ([d] : List UInt8).getLastD 0 = d := rfl
        unfold fin
        rw [hl]
        simp only [List.length_singleton]
        have hA : ¬ (1 + 9 < 10 ∧ ([d] = ([] : List UInt8) ∨ 128 ≤ d.toNat)) := fun h => absurd h.1 (by decide)
        rw [if_neg hA, if_pos (.inl ⟨by trivial, by omega⟩), dg, if_neg (by omega), if_pos (by omega)]
      · rw [take_dl d l i (by omega) hd, dg, if_neg (by omega), if_neg (by omega), if_pos (by omega), ih (i + 1) _ (by omega)]
        generalize l.take (dl l (i + 1) - (i + 1)) = D
        unfold fin
        have e : v + d.toNat % 128 * 128 ^ i + low D * 128 ^ (i + 1) = v + low (d :: D) * 128 ^ i := by
          rw [low, Nat.pow_succ, Nat.add_mul, Nat.add_assoc]
          congr 2
          rw [Nat.mul_comm (128 ^ i) 128, ← Nat.mul_assoc, Nat.mul_comm 128 (low D)]
        cases D with
        | nil =>
          have hl : ([d] : List UInt8).getLastD 0 = d := rfl
          rw [if_pos ⟨by simp; omega, .inl rfl⟩, hl, if_pos ⟨by simp; omega, .inr (by omega)⟩]
        | cons c D =>
          have hl : (d :: c :: D).getLastD 0 = (c :: D).getLastD 0 := by simp [List.getLastD]
          rw [hl, e]
          have hlen : (c :: D).length + (i + 1) = (d :: c :: D).length + i := by simp; omega
          have hlen2 : i + 1 + (c :: D).length = i + (d :: c :: D).length := by simp; omega
          rw [hlen, hlen2]
          simp only [List.cons_ne_nil, false_or]
end Go.Proofs.Ytpjepndeppckdaa
