/- Cut out of the texts of elder seats by cut.py and less.py. -/
import Derived.Test.YtkcbljmjhlnjpaaQ03
import Derived.WalkKit
import Derived.WalkLawsBesides
import Derived.ProofKit
import Derived.OpenShut
import Derived.Handy
import Derived.Laws.BitsAllLaws
import Derived.Laws.DeepStrings4
import Derived.Deep.QuietTactic
import Derived.BigQuiet
import Derived.WalkSmall
import Derived.Lib.IndexBytes
namespace Go.Proofs.Ytkcbljmjhlnjpaa.W
open Go.RowKit Go.Lib
theorem mfail (a : Nat) (s : ByteArray) (p : Nat) (e x : Int) (w : World) (h : Rd w a s p e) :
    Calls Try.prog 145 #[.pointer (some ⟨a, 0, none⟩), .int .i64 x] w fun y w' => y = .returned (.tuple #[]) ∧ Rt w w' a s p (failE e x) := by
  have H := hide h
  obtain ⟨h1, h2, h3, c0, c1, c2, f1, f2⟩ := h
  clear c0 c1
  by_cases he : e = 0
  · subst he
    go_enter Try.func145, Try.ntmps145
    go_wp2
    go_returns
    exact ⟨rfl, (unhide H).setErr x, (Upd.refl _ _ _).setCell _ _⟩
  · have hr : failE e x = e := if_neg he
    rw [hr]
    have hb : (e == 0) = false := by rw [beq_eq_false_iff_ne]; exact he
    clear hr he
    go_enter Try.func145, Try.ntmps145
    go_wp2
    go_returns
    exact ⟨rfl, Rt.refl (unhide H)⟩
theorem mFail (a : Nat) (s : ByteArray) (p : Nat) (e x : Int) (w : World) (h : Rd w a s p e) :
    Calls Try.prog 142 #[.pointer (some ⟨a, 0, none⟩), .int .i64 x] w fun y w' => y = .returned (.tuple #[]) ∧ Rt w w' a s p (failE e x) := by
  have H := hide h
  clear h
  go_enter Try.func142, Try.ntmps142
  go_wp2_with fail
  refine (mfail a s p e x _ (unhide H)).mono ?_
  rintro x w1 ⟨rfl, hp⟩
  have HP := hide hp
  clear hp
  go_wp2
  go_returns
  exact ⟨rfl, unhide HP⟩
theorem mEnd (a : Nat) (s : ByteArray) (p : Nat) (e : Int) (w : World) (h : Rd w a s p e) :
    Calls Try.prog 77 #[.pointer (some ⟨a, 0, none⟩)] w fun x w' => x = .returned (.int .i64 (endE s.size p e)) ∧ ∃ n, w' = w.drewN n := by
  obtain ⟨h1, h2, h3, c0, c1, c2, f1, f2⟩ := h
  by_cases he : e = 0
  · subst he
    by_cases hp : p < s.size
    · have hr : endE s.size p 0 = 12 := by unfold endE; rw [if_pos rfl, if_pos hp]
      rw [hr]
      clear hr
      go_enter Try.func77, Try.ntmps77
      go_wp2
      go_quiet (fail)
      go_wp2
      go_ret
      exact ⟨rfl, _, rfl⟩
    · have hr : endE s.size p 0 = 0 := by unfold endE; rw [if_pos rfl, if_neg hp]
      rw [hr]
      clear hr
      go_enter Try.func77, Try.ntmps77
      go_wp2
      go_quiet (fail)
      go_wp2
      go_ret
      exact ⟨rfl, _, rfl⟩
  · have hr : endE s.size p e = e := by unfold endE; rw [if_neg he]
    rw [hr]
    clear hr
    have hb : (e == 0) = false := by rw [beq_eq_false_iff_ne]; exact he
    clear he
    go_enter Try.func77, Try.ntmps77
    go_wp2
    go_quiet (fail)
    go_wp2
    go_ret
    exact ⟨rfl, _, rfl⟩
/-- how many bytes a number's digits are -/
def dl : List UInt8 → Nat → Nat
  | [], i => i
  | d :: l, i => if 10 ≤ i then i else if d.toNat < 128 then i + 1 else dl l (i + 1)
theorem dl_ge (l : List UInt8) (i : Nat) : i ≤ dl l i := by
  induction l generalizing i with
  | nil => simp [dl]
  | cons d l ih =>
    rw [dl]
    split
    · simp
    · split
      · omega
      · have := ih (i + 1); omega
theorem dl_le (l : List UInt8) (i : Nat) : dl l i ≤ i + l.length := by
  induction l generalizing i with
  | nil => simp [dl]
  | cons d l ih =>
    rw [dl]
    split
    · simp
    · split
      · simp
      · have := ih (i + 1); simp; omega
theorem dl_ten (l : List UInt8) (i : Nat) (h : i ≤ 10) : dl l i ≤ 10 := by
  induction l generalizing i with
  | nil => simpa [dl]
  | cons d l ih =>
    rw [dl]
    split
    · exact h
    · split
      · omega
      · exact ih (i + 1) (by omega)
/-- the number that digits are, the lowest first -/
def low : List UInt8 → Nat
  | [] => 0
  | d :: l => d.toNat % 128 + 128 * low l
theorem low_lt (l : List UInt8) : low l < 128 ^ l.length := by
  induction l with
  | nil => simp [low]
  | cons d l ih =>
    rw [low, List.length_cons, Nat.pow_succ]
    omega
/-- what digits say -/
def fin (D : List UInt8) (i v : Nat) : Nat × Nat × Int :=
  if D.length + i < 10 ∧ (D = [] ∨ 128 ≤ (D.getLastD 0).toNat) then (0, 0, 10)
  else if (D.length + i = 10 ∧ 1 < (D.getLastD 0).toNat) ∨ (1 < D.length + i ∧ (D.getLastD 0).toNat = 0) then (0, 0, 11)
  else (v + low D * 128 ^ i, i + D.length, 0)
theorem take_dl (d : UInt8) (l : List UInt8) (i : Nat) (h1 : ¬ 10 ≤ i) (h2 : ¬ d.toNat < 128) : (d :: l).take (dl (d :: l) i - i) = d :: l.take (dl l (i + 1) - (i + 1)) := by
  rw [dl, if_neg h1, if_neg h2]
  have := dl_ge l (i + 1)
  obtain ⟨m, hm⟩ : ∃ m, dl l (i + 1) = i + 1 + m := ⟨dl l (i + 1) - (i + 1), by omega⟩
  rw [hm, show i + 1 + m - i = m + 1 from by omega, show i + 1 + m - (i + 1) = m from by omega, List.take_succ_cons]
theorem dg_fin (l : List UInt8) (i v : Nat) (hi : i ≤ 9) : dg l i v = fin (l.take (dl l i - i)) i v := by
  induction l generalizing i v with
  | nil =>
    have : fin ([].take (dl [] i - i)) i v = (0, 0, 10) := by
      unfold fin
      rw [if_pos ⟨by simp; omega, .inl (by simp)⟩]
    rw [this]; rfl
  | cons d l ih =>
    by_cases hd : d.toNat < 128
    · have ht : (d :: l).take (dl (d :: l) i - i) = [d] := by
        rw [dl, if_neg (by omega), if_pos hd, show i + 1 - i = 1 from by omega]; rfl
      rw [ht]
      have hl : ([d] : List UInt8).getLastD 0 = d := rfl
      unfold fin
      rw [hl]
      simp only [List.length_singleton, low]
      have hA : ¬ (1 + i < 10 ∧ ([d] = ([] : List UInt8) ∨ 128 ≤ d.toNat)) := by
        rintro ⟨_, h | h⟩
        · exact absurd h (by simp)
        · omega
      rw [if_neg hA, dg, if_neg (by omega)]
      by_cases h9 : i = 9 ∧ 1 < d.toNat
      · rw [if_pos h9, if_pos (by omega)]
      · rw [if_neg h9, if_neg (by omega)]
        by_cases h0 : 0 < i ∧ d.toNat = 0
        · rw [if_pos h0, if_pos (by omega)]
        · rw [if_neg h0, if_neg (by omega)]
          simp
    · by_cases h9 : i = 9
      · subst h9
        have ht : (d :: l).take (dl (d :: l) 9 - 9) = [d] := by
          rw [take_dl d l 9 (by omega) hd]
          have h1 := dl_ge l (9 + 1)
          have h2 := dl_ten l (9 + 1) (by omega)
          rw [show dl l (9 + 1) - (9 + 1) = 0 from by omega, List.take_zero]
        rw [ht]
        have hl : ([d] : List UInt8).getLastD 0 = d := rfl
        unfold fin
        rw [hl]
        simp only [List.length_singleton]
        have hA : ¬ (1 + 9 < 10 ∧ ([d] = ([] : List UInt8) ∨ 128 ≤ d.toNat)) := fun h => absurd h.1 (by decide)
        rw [if_neg hA, if_pos (.inl ⟨by trivial, by omega⟩), dg, if_neg (by omega), if_pos (by omega)]
      · rw [take_dl d l i (by omega) hd, dg, if_neg (by omega), if_neg (by omega), if_pos (by omega), ih (i + 1) _ (by omega)]
        generalize l.take (dl l (i + 1) - (i + 1)) = D
        unfold fin
        have e : v + d.toNat % 128 * 128 ^ i + low D * 128 ^ (i + 1) = v + low (d :: D) * 128 ^ i := by
          rw [low, Nat.pow_succ, Nat.add_mul, Nat.add_assoc]
          congr 2
          rw [Nat.mul_comm (128 ^ i) 128, ← Nat.mul_assoc, Nat.mul_comm 128 (low D)]
        cases D with
        | nil =>
          have hl : ([d] : List UInt8).getLastD 0 = d := rfl
          rw [if_pos ⟨by simp; omega, .inl rfl⟩, hl, if_pos ⟨by simp; omega, .inr (by omega)⟩]
        | cons c D =>
          have hl : (d :: c :: D).getLastD 0 = (c :: D).getLastD 0 := by simp [List.getLastD]
          rw [hl, e]
          have hlen : (c :: D).length + (i + 1) = (d :: c :: D).length + i := by simp; omega
          have hlen2 : i + 1 + (c :: D).length = i + (d :: c :: D).length := by simp; omega
          rw [hlen, hlen2]
          simp only [List.cons_ne_nil, false_or]
theorem dl_less (s : ByteArray) (j k : Nat) (h : j < s.size) (hk : k < 10) (hd : s[j].toNat < 128) : dl (s.data.toList.drop j) k = k + 1 := by
  rw [drop_cons s j h, dl, if_neg (by omega), if_pos hd]
theorem dl_more (s : ByteArray) (j k : Nat) (h : j < s.size) (hk : k < 10) (hd : 128 ≤ s[j].toNat) : dl (s.data.toList.drop j) k = dl (s.data.toList.drop (j + 1)) (k + 1) := by
  rw [drop_cons s j h, dl, if_neg (by omega), if_neg (by omega)]
theorem dl_end (s : ByteArray) (j k : Nat) (h : s.size ≤ j ∨ 10 ≤ k) : dl (s.data.toList.drop j) k = k := by
  rcases h with h | h
  · rw [List.drop_eq_nil_of_le (by rw [size_toList]; exact h)]; rfl
  · cases s.data.toList.drop j with
    | nil => rfl
    | cons d l => rw [dl, if_pos h]
set_option maxRecDepth 100000 in
set_option maxHeartbeats 800000 in
theorem mDigits (a : Nat) (s : ByteArray) (p : Nat) (e : Int) (w : World) (h : Rd w a s p e) :
    Calls Try.prog 143 #[.pointer (some ⟨a, 0, none⟩)] w fun y w' => y = .returned (.string (s.extract p (p + dl (s.data.toList.drop p) 0))) ∧ ∃ n, w' = w.drewN n := by
  obtain ⟨h1, h2, h3, c0, c1, c2, f1, f2⟩ := h
  clear c2 f1 f2
  go_enter Try.func143, Try.ntmps143
  go_wp2
  go_loopw [3] (fun i wr => ∃ k c : Nat, p + k ≤ s.size ∧ k ≤ 10 ∧ i = .int .i64 k ∧ wr = w.drewN c ∧ Hid (dl (s.data.toList.drop (p + k)) k = dl (s.data.toList.drop p) 0)) (fun i _ => 10 - (RowKit.intOf i).toNat)
  case atStart => exact ⟨0, 0, by omega, by omega, rfl, rfl, rfl⟩
  case round =>
    obtain ⟨k, c, hk, hk', rfl, rfl, HD⟩ := hrel
    by_cases hlt : k < 10
    · have hkd : decide ((k : Int) < 10) = true := by rw [decide_eq_true_eq]; omega
      obtain ⟨j, hj⟩ : ∃ j, j = p + k := ⟨_, rfl⟩
      have hw1 : IntKind.i64.wrap (IntKind.i64.wrap ((p : Int) + (k + 1)) - 1) = (j : Int) := by
        simp only [IntKind.wrap_i64]; omega
      rw [← hj] at HD
      by_cases hlp : j < s.size
      · have hlp2 : decide ((p : Int) + k < s.size) = true := by rw [decide_eq_true_eq]; omega
        by_cases hd : s[j].toNat < 128
        · have HL := hide ((unhide HD).symm.trans (dl_less s j k hlp hlt hd))
          have hpm : (p : Int) + ((k : Int) + 1) ≤ s.size := by omega
          have HJ := hide hj
          clear hj
          go_wp2
          go_quiet (fail)
          go_wp2
          go_quiet (fail)
          go_wp2
          go_quiet (fail)
          go_wp2
          go_ret
          rw [unhide HL]
          exact ⟨rfl, by simp only [World.drewN_drewN]; exact ⟨_, rfl⟩⟩
        · have HL := hide ((dl_more s j k hlp hlt (by omega)).symm.trans (unhide HD))
          have hd2 : ¬ ((s[j].toNat : Int) < 128) := by omega
          have HJ := hide hj
          clear hj
          go_wp2
          go_quiet (fail)
          go_wp2
          go_quiet (fail)
          go_wp2
          go_roundw
          case rel => exact ⟨k + 1, _, by have := unhide HJ; omega, by omega, by go_num, World.drewN_drewN .., hide (by rw [show p + (k + 1) = j + 1 from by have := unhide HJ; omega]; exact unhide HL)⟩
          case measure => simp [RowKit.intOf]; omega
      · have hlp2 : decide ((p : Int) + k < s.size) = false := by rw [decide_eq_false_iff_not]; omega
        have HL := hide ((unhide HD).symm.trans (dl_end s j k (by omega)))
        have hpm : (p : Int) + (k : Int) ≤ s.size := by omega
        clear hj hw1
        go_wp2
        go_quiet (fail)
        go_wp2
        go_quiet (fail)
        go_wp2
        go_ret
        rw [unhide HL]
        exact ⟨rfl, by simp only [World.drewN_drewN]; exact ⟨_, rfl⟩⟩
    · have hkd : decide ((k : Int) < 10) = false := by rw [decide_eq_false_iff_not]; omega
      have HL := hide ((unhide HD).symm.trans (dl_end s (p + k) k (by omega)))
      have hpm : (p : Int) + (k : Int) ≤ s.size := by omega
      go_wp2
      go_quiet (fail)
      go_wp2
      go_quiet (fail)
      go_wp2
      go_ret
      rw [unhide HL]
      exact ⟨rfl, by simp only [World.drewN_drewN]; exact ⟨_, rfl⟩⟩
theorem low_step (t : ByteArray) (k : Nat) (h : k < t.size) : low (t.data.toList.drop k) = t[k].toNat % 128 + 128 * low (t.data.toList.drop (k + 1)) := by
  rw [drop_cons t k h, low]
theorem low_end (t : ByteArray) (k : Nat) (h : t.size ≤ k) : low (t.data.toList.drop k) = 0 := by
  rw [List.drop_eq_nil_of_le (by rw [size_toList]; exact h)]; rfl
theorem low_room (t : ByteArray) (k : Nat) (ht : t.size ≤ 10) (h9 : t.size = 10 → ∀ h : 9 < t.size, t[9].toNat ≤ 1) : low (t.data.toList.drop k) < 18446744073709551616 := by
  by_cases hk : t.size ≤ k + 9
  · have h := low_lt (t.data.toList.drop k)
    rw [List.length_drop, size_toList] at h
    have : 128 ^ (t.size - k) ≤ 128 ^ 9 := Nat.pow_le_pow_right (by decide) (by omega)
    omega
  · have hk0 : k = 0 := by omega
    have hs : t.size = 10 := by omega
    subst hk0
    have h1 := h9 hs (by omega)
    have e : ∀ (m : Nat) (hm : m < t.size), low (t.data.toList.drop m) < 128 ^ (9 - m) * (low (t.data.toList.drop 9) + 1) ∨ 9 < m := by
      intro m hm
      by_cases h9m : 9 < m
      · exact .inr h9m
      · left
        have hj : ∀ j, j ≤ 9 → low (t.data.toList.drop (9 - j)) < 128 ^ j * (low (t.data.toList.drop 9) + 1) := by
          intro j
          induction j with
          | zero => intro _; simp
          | succ j ih =>
            intro hj
            have := ih (by omega)
            rw [low_step t (9 - (j + 1)) (by omega), show 9 - (j + 1) + 1 = 9 - j from by omega, Nat.pow_succ, Nat.mul_comm (128 ^ j) 128, Nat.mul_assoc]
            omega
        have := hj (9 - m) (by omega)
        rwa [show 9 - (9 - m) = m from by omega] at this
    have h0 := (e 0 (by omega)).resolve_right (by omega)
    have hl : low (t.data.toList.drop 9) ≤ 1 := by
      rw [low_step t 9 (by omega), low_end t (9 + 1) (by omega)]
      omega
    have h2 : 128 ^ (9 - 0) * (low (t.data.toList.drop 9) + 1) ≤ 128 ^ 9 * 2 := Nat.mul_le_mul (by decide) (by omega)
    omega
/-- what the number's call says of digits -/
def numS (D : List UInt8) (most : Nat) : Nat × Int :=
  if (fin D 0 0).2.2 ≠ 0 then (0, (fin D 0 0).2.2) else if most < (fin D 0 0).1 then (0, 11) else ((fin D 0 0).1, 0)
theorem last_d (t : ByteArray) (j : Nat) (hj : t.size = j + 1) : t.data.toList.getLastD 0 = t[j]'(by omega) := by
  have hl := size_toList t
  rw [List.getLastD_eq_getLast?, List.getLast?_eq_getElem?]
  have e : t.data.toList.length - 1 = j := by omega
  rw [e, List.getElem?_eq_getElem (by omega)]
  rfl
theorem ret2 {A C : Int} {q : Nat × Int} {v : Nat} {e : Int} (h : q = (v, e)) (hA : A = v) (hC : C = e) :
    Ending.returned (.tuple #[.int .u64 A, .int .i64 C]) = .returned (.tuple #[.int .u64 q.1, .int .i64 q.2]) := by
  rw [h, hA, hC]
theorem numS_bad {D : List UInt8} {most : Nat} {x : Int} (h : fin D 0 0 = (0, 0, x)) (hx : x ≠ 0) : numS D most = (0, x) := by
  unfold numS
  rw [h, if_pos hx]
theorem numS0 (D : List UInt8) (most : Nat) (h : D = []) : numS D most = (0, 10) := by
  subst h
  exact numS_bad (by unfold fin; rw [if_pos ⟨by simp, .inl rfl⟩]) (by decide)
theorem numS1 (t : ByteArray) (most j : Nat) (hj : t.size = j + 1) (h10 : j < 9) (h : 128 ≤ (t[j]'(by omega)).toNat) : numS t.data.toList most = (0, 10) := by
  refine numS_bad ?_ (by decide)
  have hl := size_toList t
  unfold fin
  rw [last_d t j hj, if_pos ⟨by omega, .inr h⟩]
theorem fin_not (t : ByteArray) (j : Nat) (hj : t.size = j + 1) (h9 : 9 ≤ j ∨ (t[j]'(by omega)).toNat < 128) : ¬ (t.data.toList.length + 0 < 10 ∧ (t.data.toList = [] ∨ 128 ≤ (t[j]'(by omega)).toNat)) := by
  have hl := size_toList t
  rintro ⟨h1, h2 | h2⟩
  · rw [h2] at hl; simp at hl; omega
  · omega
theorem numS2 (t : ByteArray) (most j : Nat) (hj : t.size = j + 1) (h9 : 9 ≤ j ∨ (t[j]'(by omega)).toNat < 128) (h : j = 9 ∧ 1 < (t[j]'(by omega)).toNat ∨ 0 < j ∧ (t[j]'(by omega)).toNat = 0) : numS t.data.toList most = (0, 11) := by
  have hA := fin_not t j hj h9
  have hl := size_toList t
  refine numS_bad ?_ (by decide)
  unfold fin
  rw [last_d t j hj, if_neg hA, if_pos (by omega)]
theorem numS3 (t : ByteArray) (most j : Nat) (hj : t.size = j + 1) (h9 : 9 ≤ j ∨ (t[j]'(by omega)).toNat < 128) (h : ¬ (j = 9 ∧ 1 < (t[j]'(by omega)).toNat ∨ 0 < j ∧ (t[j]'(by omega)).toNat = 0)) : numS t.data.toList most = if most < low t.data.toList then (0, 11) else (low t.data.toList, 0) := by
  have hA := fin_not t j hj h9
  have hl := size_toList t
  have hf : fin t.data.toList 0 0 = (low t.data.toList, t.size, 0) := by
    unfold fin
    rw [last_d t j hj, if_neg hA, if_neg (by omega)]
    simp [hl]
  unfold numS
  rw [hf, if_neg (by simp)]
set_option maxRecDepth 100000 in
set_option maxHeartbeats 800000 in
theorem mNumber (t : ByteArray) (most : Nat) (w : World) (h10 : t.size ≤ 10) :
    Calls Try.prog 144 #[.string t, .int .u64 most] w fun y w' => y = .returned (.tuple #[.int .u64 (numS t.data.toList most).1, .int .i64 (numS t.data.toList most).2]) ∧ w' = w := by
  by_cases h0 : t.size = 0
  · have hr := numS0 t.data.toList most (List.eq_nil_of_length_eq_zero (by rw [size_toList]; exact h0))
    rw [hr]
    have hs : (t.size : Int) = 0 := by omega
    clear hr h10 h0
    go_enter Try.func144, Try.ntmps144
    go_wp2
    go_ret2
    exact ⟨rfl, rfl⟩
  · obtain ⟨j, hj⟩ : ∃ j, t.size = j + 1 := ⟨t.size - 1, by omega⟩
    have hjl : j < t.size := by omega
    by_cases hS : j < 9 ∧ 128 ≤ t[j].toNat
    · rw [numS1 t most j hj hS.1 hS.2]
      obtain ⟨hS1, hS2⟩ := hS
      have hs : (t.size : Int) = (j : Int) + 1 := by omega
      have hs1 : ((j : Int) + 1 < 10) := by omega
      have hs2 : ((j : Int) + 1 == 0) = false := by rw [beq_eq_false_iff_ne]; omega
      have hb : ¬ ((t[j].toNat : Int) < 128) := by omega
      go_enter Try.func144, Try.ntmps144
      go_wp2
      go_ret2
      exact ⟨rfl, rfl⟩
    · have h9 : 9 ≤ j ∨ t[j].toNat < 128 := by omega
      by_cases hL : j = 9 ∧ 1 < t[j].toNat ∨ 0 < j ∧ t[j].toNat = 0
      · rw [numS2 t most j hj h9 hL]
        by_cases hj9 : j = 9
        · subst hj9
          have hs : (t.size : Int) = 10 := by omega
          by_cases hb : 1 < t[9].toNat
          · have hb' : (1 : Int) < t[9].toNat := by omega
            clear h10 h0 hj hS h9 hL hb
            go_enter Try.func144, Try.ntmps144
            go_wp2
            go_ret2
            exact ⟨rfl, rfl⟩
          · have hb' : (t[9].toNat : Int) = 0 := by omega
            clear h10 h0 hj hS h9 hL hb
            go_enter Try.func144, Try.ntmps144
            go_wp2
            go_ret2
            exact ⟨rfl, rfl⟩
        · have hs : (t.size : Int) = (j : Int) + 1 := by omega
          have hs1 : ((j : Int) + 1 < 10) := by omega
          have hs2 : ((j : Int) + 1 == 0) = false := by rw [beq_eq_false_iff_ne]; omega
          have hs3 : ((j : Int) + 1 == 10) = false := by rw [beq_eq_false_iff_ne]; omega
          have hs4 : (1 : Int) < (j : Int) + 1 := by omega
          have hb : (t[j].toNat : Int) = 0 := by omega
          clear h10 h0 hj hS h9 hL hj9
          go_enter Try.func144, Try.ntmps144
          go_wp2
          go_ret2
          exact ⟨rfl, rfl⟩
      · rw [numS3 t most j hj h9 hL]
        have h91 : t.size = 10 → ∀ h : 9 < t.size, t[9].toNat ≤ 1 := by
          intro h h'
          have e : j = 9 := by omega
          subst e; omega
        have hroom := fun k => low_room t k h10 h91
        have HROOM := hide hroom
        clear hroom h91
        generalize hq : (if most < low t.data.toList then ((0 : Nat), (11 : Int)) else (low t.data.toList, 0)) = q
        have HQ := hide hq
        clear hq
        by_cases hj9 : j = 9
        · subst hj9
          have hs : (t.size : Int) = 10 := by omega
          have hb' : (t[9].toNat : Int) = 1 := by omega
          clear h10 h0 hj hS h9 hL
          go_enter Try.func144, Try.ntmps144
          go_wp2
          go_loop [7, 8] (fun v i => ∃ k : Nat, k ≤ t.size ∧ i = .int .i64 ((k : Int) - 1) ∧ v = .int .u64 (low (t.data.toList.drop k))) (fun _ i => (RowKit.intOf i + 1).toNat)
          case atStart => exact ⟨t.size, Nat.le_refl _, by rw [hs]; first | done | rfl | (congr 1; omega), by rw [low_end t t.size (Nat.le_refl _)]; rfl⟩
          case round =>
            obtain ⟨k, hk, rfl, rfl⟩ := hrel
            cases k with
            | zero =>
              simp only [List.drop_zero]
              by_cases hm : most < low t.data.toList
              · have HZ := hide ((unhide HQ).symm.trans (if_pos hm))
                have hm' : (most : Int) < (low t.data.toList : Nat) := by omega
                generalize (low t.data.toList) = V at *
                go_wp2
                go_ret2
                exact ⟨ret2 (unhide HZ) rfl rfl, rfl⟩
              · have HZ := hide ((unhide HQ).symm.trans (if_neg hm))
                have hm' : ¬ ((most : Int) < (low t.data.toList : Nat)) := by omega
                generalize (low t.data.toList) = V at *
                go_wp2
                go_ret2
                exact ⟨ret2 (unhide HZ) rfl rfl, rfl⟩
            | succ m =>
              have hml : m < t.size := by omega
              have hst := low_step t m hml
              have hr := unhide HROOM m
              rw [hst] at hr
              have HST := hide hst
              clear hst
              have hmi : ((m + 1 : Nat) : Int) - 1 = (m : Int) := by omega
              rw [hmi]
              generalize low (t.data.toList.drop (m + 1)) = V at *
              go_wp2
              go_round
              case rel => exact ⟨m, by omega, by go_num, by rw [unhide HST]; go_num⟩
              case measure => simp [RowKit.intOf]
        · have hs : (t.size : Int) = (j : Int) + 1 := by omega
          have hs1 : ((j : Int) + 1 < 10) := by omega
          have hs2 : ((j : Int) + 1 == 0) = false := by rw [beq_eq_false_iff_ne]; omega
          have hs3 : ((j : Int) + 1 == 10) = false := by rw [beq_eq_false_iff_ne]; omega
          have hb1 : (t[j].toNat : Int) < 128 := by omega
          by_cases hj0 : j = 0
          · subst hj0
            have hs4 : ¬ ((1 : Int) < ((0 : Nat) : Int) + 1) := by omega
            clear h10 h0 hj hS h9 hL hj9
            go_enter Try.func144, Try.ntmps144
            go_wp2
            go_loop [7, 8] (fun v i => ∃ k : Nat, k ≤ t.size ∧ i = .int .i64 ((k : Int) - 1) ∧ v = .int .u64 (low (t.data.toList.drop k))) (fun _ i => (RowKit.intOf i + 1).toNat)
            case atStart => exact ⟨t.size, Nat.le_refl _, by rw [hs]; first | done | rfl | (congr 1; omega), by rw [low_end t t.size (Nat.le_refl _)]; rfl⟩
            case round =>
              obtain ⟨k, hk, rfl, rfl⟩ := hrel
              cases k with
              | zero =>
                simp only [List.drop_zero]
                by_cases hm : most < low t.data.toList
                · have HZ := hide ((unhide HQ).symm.trans (if_pos hm))
                  have hm' : (most : Int) < (low t.data.toList : Nat) := by omega
                  generalize (low t.data.toList) = V at *
                  go_wp2
                  go_ret2
                  exact ⟨ret2 (unhide HZ) rfl rfl, rfl⟩
                · have HZ := hide ((unhide HQ).symm.trans (if_neg hm))
                  have hm' : ¬ ((most : Int) < (low t.data.toList : Nat)) := by omega
                  generalize (low t.data.toList) = V at *
                  go_wp2
                  go_ret2
                  exact ⟨ret2 (unhide HZ) rfl rfl, rfl⟩
              | succ m =>
                have hml : m < t.size := by omega
                have hst := low_step t m hml
                have hr := unhide HROOM m
                rw [hst] at hr
                have HST := hide hst
                clear hst
                have hmi : ((m + 1 : Nat) : Int) - 1 = (m : Int) := by omega
                rw [hmi]
                generalize low (t.data.toList.drop (m + 1)) = V at *
                go_wp2
                go_round
                case rel => exact ⟨m, by omega, by go_num, by rw [unhide HST]; go_num⟩
                case measure => simp [RowKit.intOf]
          · have hs4 : (1 : Int) < (j : Int) + 1 := by omega
            have hb : ((t[j].toNat : Int) == 0) = false := by rw [beq_eq_false_iff_ne]; omega
            clear h10 h0 hj hS h9 hL hj9 hj0
            go_enter Try.func144, Try.ntmps144
            go_wp2
            go_loop [7, 8] (fun v i => ∃ k : Nat, k ≤ t.size ∧ i = .int .i64 ((k : Int) - 1) ∧ v = .int .u64 (low (t.data.toList.drop k))) (fun _ i => (RowKit.intOf i + 1).toNat)
            case atStart => exact ⟨t.size, Nat.le_refl _, by rw [hs]; first | done | rfl | (congr 1; omega), by rw [low_end t t.size (Nat.le_refl _)]; rfl⟩
            case round =>
              obtain ⟨k, hk, rfl, rfl⟩ := hrel
              cases k with
              | zero =>
                simp only [List.drop_zero]
                by_cases hm : most < low t.data.toList
                · have HZ := hide ((unhide HQ).symm.trans (if_pos hm))
                  have hm' : (most : Int) < (low t.data.toList : Nat) := by omega
                  generalize (low t.data.toList) = V at *
                  go_wp2
                  go_ret2
                  exact ⟨ret2 (unhide HZ) rfl rfl, rfl⟩
                · have HZ := hide ((unhide HQ).symm.trans (if_neg hm))
                  have hm' : ¬ ((most : Int) < (low t.data.toList : Nat)) := by omega
                  generalize (low t.data.toList) = V at *
                  go_wp2
                  go_ret2
                  exact ⟨ret2 (unhide HZ) rfl rfl, rfl⟩
              | succ m =>
                have hml : m < t.size := by omega
                have hst := low_step t m hml
                have hr := unhide HROOM m
                rw [hst] at hr
                have HST := hide hst
                clear hst
                have hmi : ((m + 1 : Nat) : Int) - 1 = (m : Int) := by omega
                rw [hmi]
                generalize low (t.data.toList.drop (m + 1)) = V at *
                go_wp2
                go_round
                case rel => exact ⟨m, by omega, by go_num, by rw [unhide HST]; go_num⟩
                case measure => simp [RowKit.intOf]
theorem dl_le' (s : ByteArray) (p : Nat) (h : p ≤ s.size) : p + dl (s.data.toList.drop p) 0 ≤ s.size := by
  have := dl_le (s.data.toList.drop p) 0
  rw [List.length_drop, size_toList] at this
  omega
theorem extract_dl (s : ByteArray) (p : Nat) : (s.extract p (p + dl (s.data.toList.drop p) 0)).data.toList = (s.data.toList.drop p).take (dl (s.data.toList.drop p) 0 - 0) := by
  simp [ByteArray.data_extract, List.extract_eq_take_drop]
/-- what Uint takes, by the document's way -/
theorem uintS_num (s : ByteArray) (p : Nat) (most : Nat) : uintS s p 0 most =
    ((numS (s.extract p (p + dl (s.data.toList.drop p) 0)).data.toList most).1, (if (numS (s.extract p (p + dl (s.data.toList.drop p) 0)).data.toList most).2 = 0 then p + dl (s.data.toList.drop p) 0 else p), (numS (s.extract p (p + dl (s.data.toList.drop p) 0)).data.toList most).2) := by
  have hf := dg_fin (s.data.toList.drop p) 0 0 (by omega)
  rw [← extract_dl] at hf
  have hlen : (s.extract p (p + dl (s.data.toList.drop p) 0)).data.toList.length = dl (s.data.toList.drop p) 0 := by
    have := dl_le (s.data.toList.drop p) 0
    rw [extract_dl, List.length_take]; omega
  unfold uintS numS
  rw [if_neg (by simp), hf]
  by_cases h1 : (fin (s.extract p (p + dl (s.data.toList.drop p) 0)).data.toList 0 0).2.2 ≠ 0
  · rw [if_pos h1, if_pos h1]
    simp only
    rw [if_neg h1]
  · rw [if_neg h1, if_neg h1]
    by_cases h2 : most < (fin (s.extract p (p + dl (s.data.toList.drop p) 0)).data.toList 0 0).1
    · rw [if_pos h2, if_pos h2]; rfl
    · rw [if_neg h2, if_neg h2]
      simp only
      rw [if_pos trivial]
      have h3 : (fin (s.extract p (p + dl (s.data.toList.drop p) 0)).data.toList 0 0).2.1 = dl (s.data.toList.drop p) 0 := by
        revert h1
        generalize (s.extract p (p + dl (s.data.toList.drop p) 0)).data.toList = D at hlen ⊢
        unfold fin
        split
        · intro h; simp at h
        · split
          · intro h; simp at h
          · intro _; simp only; omega
      rw [h3]
theorem numS_zero (D : List UInt8) (most : Nat) (h : (numS D most).2 ≠ 0) : (numS D most).1 = 0 := by
  unfold numS at h ⊢
  by_cases h1 : (fin D 0 0).2.2 ≠ 0
  · rw [if_pos h1]
  · rw [if_neg h1] at h ⊢
    by_cases h2 : most < (fin D 0 0).1
    · rw [if_pos h2]
    · rw [if_neg h2] at h
      exact absurd rfl h
set_option maxRecDepth 100000 in
set_option maxHeartbeats 800000 in
theorem mUint (a : Nat) (s : ByteArray) (p : Nat) (e : Int) (most : Nat) (w : World) (h : Rd w a s p e) :
    Calls Try.prog 113 #[.pointer (some ⟨a, 0, none⟩), .int .u64 most] w fun y w' => y = .returned (.int .u64 (uintS s p e most).1) ∧ Rt w w' a s (uintS s p e most).2.1 (uintS s p e most).2.2 := by
  have H := hide h
  have hle := h.le
  have hmx := h.max
  by_cases he : e = 0
  · subst he
    rw [uintS_num s p most]
    have hdg := mDigits a s p 0 w h
    have hdl := dl_le' s p hle
    have hd10 := dl_ten (s.data.toList.drop p) 0 (by omega)
    generalize dl (s.data.toList.drop p) 0 = n at *
    have hsz : (s.extract p (p + n)).size = n := by simp; omega
    have hnum := fun u => mNumber (s.extract p (p + n)) most u (by omega)
    generalize s.extract p (p + n) = t at *
    have hz := numS_zero t.data.toList most
    generalize numS t.data.toList most = q at *
    obtain ⟨v, x⟩ := q
    simp only at hnum hz ⊢
    have HD := hide hdg
    have HN := hide hnum
    clear hdg hnum
    obtain ⟨h1, h2, h3, c0, c1, c2, f1, f2⟩ := h
    by_cases hx : x = 0
    · subst hx
      rw [if_pos rfl]
      clear f2 hz
      go_enter Try.func113, Try.ntmps113
      go_wp2_with fail
      refine (unhide HD).mono ?_
      rintro y w1 ⟨rfl, k, rfl⟩
      go_wp2_with fail
      refine ((unhide HN) _).mono ?_
      rintro y w2 ⟨rfl, rfl⟩
      go_wp2
      go_ret
      have h' := ((unhide H).drewN k).setAt (p + n) (by omega)
      rw [Int.natCast_add] at h'
      exact ⟨rfl, h', ((Upd.refl _ _ _).drewN _).setCell _ _⟩
    · rw [if_neg hx]
      have hv := hz hx
      subst hv
      clear hz
      have hxb : (x != 0) = true := by rw [bne_iff_ne]; exact hx
      have hfe : failE 0 x = x := if_pos rfl
      have HFE := hide hfe
      clear hx hfe f2
      go_enter Try.func113, Try.ntmps113
      go_wp2_with fail
      refine (unhide HD).mono ?_
      rintro y w1 ⟨rfl, k, rfl⟩
      go_wp2_with fail
      refine ((unhide HN) _).mono ?_
      rintro y w2 ⟨rfl, rfl⟩
      go_wp2_with fail
      refine (mfail a s p 0 x _ ((unhide H).drewN _)).mono ?_
      rintro y w3 ⟨rfl, hp⟩
      rw [unhide HFE] at hp
      have HP := hide hp
      clear hp
      go_wp2
      go_ret
      exact ⟨rfl, (unhide HP).1, ((Upd.refl _ _ _).drewN _).trans (unhide HP).2 (.inl rfl)⟩
  · have hr : uintS s p e most = (0, p, e) := if_pos he
    rw [hr]
    have heb : (e != 0) = true := by rw [bne_iff_ne]; exact he
    obtain ⟨h1, h2, h3, c0, c1, c2, f1, f2⟩ := h
    clear hr he
    go_enter Try.func113, Try.ntmps113
    go_wp2
    go_ret
    exact ⟨rfl, Rt.refl (unhide H)⟩
end Go.Proofs.Ytkcbljmjhlnjpaa.W
