/- The reader's Uint and End: cut out of the wire's texts. -/
import Derived.Test.YtfdfbjijomepgaaDoorPr
import Derived.Laws.BitsAllLaws
import Derived.Laws.DeepStrings4
import Derived.Deep.QuietTactic
import Derived.BigQuiet
import Derived.WalkSmall
import Derived.Lib.IndexBytes
import Derived.Laws.DeepNot64
import Derived.WalkKit
import Derived.WalkLawsBesides
import Derived.ProofKit
import Derived.OpenShut
import Derived.Handy
namespace Go.Proofs.YtfdfbjijomepgaaDoor
open Go.RowKit Go.Lib

/-- what End says -/
def endE (n p : Nat) (e : Int) : Int := if e = 0 then (if p < n then 12 else 0) else e
theorem rEnd (a : Nat) (s : ByteArray) (p : Nat) (e : Int) (w : World) (h : Rd w a s p e) :
    Calls Tryd.prog 77 #[.pointer (some ⟨a, 0, none⟩)] w fun x w' => x = .returned (.int .i64 (endE s.size p e)) ∧ ∃ n, w' = w.drewN n := by
  have H := hide h
  have hle := h.le
  have hmx := h.max
  clear h
  by_cases he : e = 0
  · subst he
    by_cases hp : p < s.size
    · have hr : endE s.size p 0 = 12 := by unfold endE; rw [if_pos rfl, if_pos hp]
      rw [hr]
      clear hr
      go_enter Tryd.func77, Tryd.ntmps77
      go_wp2_with fail
      refine (rStop0 a s p _ (unhide H)).mono ?_
      rintro x w1 ⟨rfl, rfl⟩
      go_wp2_with fail
      refine (rLeft a s p 0 _ (unhide H)).mono ?_
      rintro x w1 ⟨rfl, n, rfl⟩
      go_wp2
      go_ret
      exact ⟨rfl, _, rfl⟩
    · have hr : endE s.size p 0 = 0 := by unfold endE; rw [if_pos rfl, if_neg hp]
      rw [hr]
      clear hr
      go_enter Tryd.func77, Tryd.ntmps77
      go_wp2_with fail
      refine (rStop0 a s p _ (unhide H)).mono ?_
      rintro x w1 ⟨rfl, rfl⟩
      go_wp2_with fail
      refine (rLeft a s p 0 _ (unhide H)).mono ?_
      rintro x w1 ⟨rfl, n, rfl⟩
      go_wp2
      go_ret
      exact ⟨rfl, _, rfl⟩
  · have hr : endE s.size p e = e := by unfold endE; rw [if_neg he]
    rw [hr]
    clear hr
    have HE := hide he
    clear he
    go_enter Tryd.func77, Tryd.ntmps77
    go_wp2_with fail
    refine (rStop1 a s p e _ (unhide H) (unhide HE)).mono ?_
    rintro x w1 ⟨rfl, rfl⟩
    go_wp2_with fail
    refine (rErr a s p e _ (unhide H)).mono ?_
    rintro x w1 ⟨rfl, rfl⟩
    go_wp2
    go_ret
    exact ⟨rfl, 0, rfl⟩
/-- the number that digits to the base 128 are, from the i-th on -/
def dg : List UInt8 → Nat → Nat → Nat × Nat × Int
  | [], _, _ => (0, 0, 10)
  | d :: l, i, v =>
    if 10 ≤ i then (0, 0, 10) else if i = 9 ∧ 1 < d.toNat then (0, 0, 11)
    else if 128 ≤ d.toNat then dg l (i + 1) (v + d.toNat % 128 * 128 ^ i)
    else if 0 < i ∧ d.toNat = 0 then (0, 0, 11) else (v + d.toNat % 128 * 128 ^ i, i + 1, 0)
theorem dg_ten (l : List UInt8) (v : Nat) : dg l 10 v = (0, 0, 10) := by cases l <;> simp [dg]
theorem drop_cons (s : ByteArray) (k : Nat) (h : k < s.size) : s.data.toList.drop k = s[k] :: s.data.toList.drop (k + 1) := by
  rw [List.drop_eq_getElem_cons (by simpa using h)]; rfl
theorem dgA (t : ByteArray) (k x : Nat) (h : k < t.size) (h9 : k = 9) (hd : 1 < t[k].toNat) : dg (t.data.toList.drop k) k x = (0, 0, 11) := by
  rw [drop_cons t k h, dg, if_neg (by omega), if_pos ⟨h9, hd⟩]
theorem dgB (t : ByteArray) (k x : Nat) (h : k < t.size) (h9 : k < 9) (hd : 128 ≤ t[k].toNat) : dg (t.data.toList.drop k) k x = dg (t.data.toList.drop (k + 1)) (k + 1) (x + t[k].toNat % 128 * 128 ^ k) := by
  rw [drop_cons t k h, dg, if_neg (by omega), if_neg (by omega), if_pos hd]
theorem dgC (t : ByteArray) (k x : Nat) (h : k < t.size) (h9 : k < 10) (h0 : 0 < k) (hd : t[k].toNat = 0) : dg (t.data.toList.drop k) k x = (0, 0, 11) := by
  rw [drop_cons t k h, dg, if_neg (by omega), if_neg (by omega), if_neg (by omega), if_pos ⟨h0, hd⟩]
theorem dgD (t : ByteArray) (k x : Nat) (h : k < t.size) (h9 : k < 10) (hA : k = 9 → t[k].toNat ≤ 1) (hd : t[k].toNat < 128) (h0 : k = 0 ∨ t[k].toNat ≠ 0) : dg (t.data.toList.drop k) k x = (x + t[k].toNat % 128 * 128 ^ k, k + 1, 0) := by
  rw [drop_cons t k h, dg, if_neg (by omega), if_neg (by omega), if_neg (by omega), if_neg (by omega)]
theorem dgE (t : ByteArray) (k x : Nat) (h : t.size ≤ k ∨ 10 ≤ k) : dg (t.data.toList.drop k) k x = (0, 0, 10) := by
  rcases h with h | h
  · rw [List.drop_eq_nil_of_le (by rw [size_toList]; exact h)]; rfl
  · cases t.data.toList.drop k with
    | nil => rfl
    | cons d l => rw [dg, if_pos h]
theorem and127 (d : UInt8) : bits .and .u8 (d.toNat : Int) 127 = ((d.toNat % 128 : Nat) : Int) := by
  have hd := d.toNat_lt
  rw [u8_and _ _ (by omega) (by omega) (by omega) (by omega)]
  congr 1
  exact Nat.and_two_pow_sub_one_eq_mod d.toNat 7
theorem or_digit (x m j : Nat) (hj : j ≤ 9) (hx : x < 128 ^ j) (hm : m * 128 ^ j < 18446744073709551616) : bits .or .u64 (x : Int) (IntKind.u64.wrap (IntKind.u64.wrap ((m : Nat) : Int) * ((128 ^ j : Nat) : Int))) = ((x + m * 128 ^ j : Nat) : Int) := by
  have hp : 0 < 128 ^ j := Nat.pow_pos (by decide)
  have hj2 : 128 ^ j ≤ 128 ^ 9 := Nat.pow_le_pow_right (by decide) hj
  have hm1 : m < 18446744073709551616 := Nat.lt_of_le_of_lt (Nat.le_mul_of_pos_right m hp) hm
  have e1 : IntKind.u64.wrap ((m : Nat) : Int) = m := by rw [IntKind.wrap_u64]; omega
  have e2 : IntKind.u64.wrap ((m : Int) * ((128 ^ j : Nat) : Int)) = ((m * 128 ^ j : Nat) : Int) := by
    rw [IntKind.wrap_u64, ← Int.natCast_mul]; omega
  rw [e1, e2, u64_or_nat _ _ (by omega) hm]
  congr 1
  have e3 : (128 : Nat) ^ j = 2 ^ (7 * j) := (Nat.pow_mul 2 7 j).symm
  rw [e3] at hx ⊢
  have := Nat.two_pow_add_eq_or_of_lt (i := 7 * j) (b := x) hx m
  rw [Nat.or_comm, Nat.mul_comm m, ← this, Nat.add_comm]
theorem ret3 {A B C : Int} {q : Nat × Nat × Int} {v u : Nat} {e : Int} (h : q = (v, u, e)) (hA : A = v) (hB : B = u) (hC : C = e) :
    Ending.returned (.tuple #[.int .u64 A, .int .i64 B, .int .i64 C]) = .returned (.tuple #[.int .u64 q.1, .int .i64 q.2.1, .int .i64 q.2.2]) := by
  rw [h, hA, hB, hC]
/-- the digit laid behind the others -/
theorem orS (x : Nat) (d : UInt8) (k : Nat) (hk : k < 9) (hx : x < 128 ^ k) : bits .or .u64 (x : Int) (IntKind.u64.wrap (IntKind.u64.wrap (bits .and .u8 (d.toNat : Int) 127) * 2 ^ (7 * k))) = ((x + d.toNat % 128 * 128 ^ k : Nat) : Int) := by
  have e : ((2 : Int) ^ (7 * k)) = ((128 ^ k : Nat) : Int) := by
    have e : (128 : Nat) ^ k = 2 ^ (7 * k) := (Nat.pow_mul 2 7 k).symm
    rw [e]; simp
  rw [and127, e]
  refine or_digit x _ k (by omega) hx ?_
  have h1 : 128 ^ k ≤ 128 ^ 8 := Nat.pow_le_pow_right (by decide) (by omega)
  have h2 : d.toNat % 128 * 128 ^ k ≤ 127 * 128 ^ 8 := Nat.mul_le_mul (by omega) h1
  omega
theorem orS9 (x : Nat) (d : UInt8) (hd : d.toNat ≤ 1) (hx : x < 128 ^ 9) : bits .or .u64 (x : Int) (IntKind.u64.wrap (IntKind.u64.wrap (bits .and .u8 (d.toNat : Int) 127) * 9223372036854775808)) = ((x + d.toNat % 128 * 128 ^ 9 : Nat) : Int) := by
  rw [and127]
  exact or_digit x _ 9 (by omega) hx (by omega)
set_option maxRecDepth 100000 in
set_option maxHeartbeats 800000 in
theorem rDigits (t : ByteArray) (w : World) (hm : t.size ≤ 140737488355328) :
    Calls Tryd.prog 83 #[.string t] w fun y w' => y = .returned (.tuple #[.int .u64 (dg t.data.toList 0 0).1, .int .i64 (dg t.data.toList 0 0).2.1, .int .i64 (dg t.data.toList 0 0).2.2]) ∧ w' = w := by
  by_cases h10 : (10 : Int) < (t.size : Int)
  all_goals
    go_enter Tryd.func83, Tryd.ntmps83
    go_wp2
    go_loop [5, 11] (fun v i => ∃ k x : Nat, k ≤ t.size ∧ k ≤ 10 ∧ i = .int .i64 k ∧ v = .int .u64 x ∧ Hid (x < 128 ^ k ∧ dg (t.data.toList.drop k) k x = dg t.data.toList 0 0)) (fun _ i => 10 - (intOf i).toNat)
    case atStart => exact ⟨0, 0, Nat.zero_le _, Nat.zero_le _, rfl, rfl, by decide, rfl⟩
    case round =>
      obtain ⟨k, x, hk, hk', rfl, rfl, HD⟩ := hrel
      by_cases hlt : k < t.size ∧ k < 10
      · obtain ⟨hl1, hl2⟩ := hlt
        by_cases h9 : k = 9
        · subst h9
          go_wp2
          all_goals go_ret3
          all_goals first
            | exact ⟨ret3 ((unhide HD).2.symm.trans (dgA t 9 x hl1 rfl (by omega))) rfl rfl rfl, rfl⟩
            | exact ⟨ret3 ((unhide HD).2.symm.trans (dgC t 9 x hl1 (by omega) (by omega) (by have h := (‹((t[9].toNat : Int) == 0) = true›); rw [beq_iff_eq] at h; omega))) rfl rfl rfl, rfl⟩
            | exact ⟨ret3 ((unhide HD).2.symm.trans (dgD t 9 x hl1 (by omega) (by omega) (by omega) (.inr (by have h := (‹((t[9].toNat : Int) == 0) = false›); rw [beq_eq_false_iff_ne] at h; omega)))) (orS9 x _ (by omega) (unhide HD).1) rfl rfl, rfl⟩
        · have h9b : ((k : Int) == 9) = false := by rw [beq_eq_false_iff_ne]; omega
          go_wp2
          all_goals first
            | (go_round; (case rel => exact ⟨k + 1, _, by omega, by omega, by go_num, congrArg (Value.int .u64) (orS x _ k (by omega) (unhide HD).1), hide ⟨by rw [Nat.pow_succ]; have := Nat.mul_le_mul_right (128 ^ k) (show t[k].toNat % 128 ≤ 127 from by omega); have := (unhide HD).1; omega, by rw [← dgB t k x hl1 (by omega) (by omega)]; exact (unhide HD).2⟩⟩); (case measure => simp [intOf]; omega))
            | (go_ret3; exact ⟨ret3 ((unhide HD).2.symm.trans (dgC t k x hl1 (by omega) (by omega) (by have h := (‹((t[k].toNat : Int) == 0) = true›); rw [beq_iff_eq] at h; omega))) rfl rfl rfl, rfl⟩)
            | (go_ret3; exact ⟨ret3 ((unhide HD).2.symm.trans (dgD t k x hl1 (by omega) (by omega) (by omega) (.inr (by have h := (‹((t[k].toNat : Int) == 0) = false›); rw [beq_eq_false_iff_ne] at h; omega)))) (orS x _ k (by omega) (unhide HD).1) (by omega) rfl, rfl⟩)
            | (go_ret3; exact ⟨ret3 ((unhide HD).2.symm.trans (dgD t k x hl1 (by omega) (by omega) (by omega) (.inl (by omega)))) (orS x _ k (by omega) (unhide HD).1) (by omega) rfl, rfl⟩)
      · go_wp2
        go_ret3
        exact ⟨ret3 ((unhide HD).2.symm.trans (dgE t k x (by omega))) rfl rfl rfl, rfl⟩
/-- what Uint takes -/
def uintS (s : ByteArray) (p : Nat) (e : Int) (most : Nat) : Nat × Nat × Int :=
  if e ≠ 0 then (0, p, e)
  else if (dg (s.data.toList.drop p) 0 0).2.2 ≠ 0 then (0, p, (dg (s.data.toList.drop p) 0 0).2.2)
  else if most < (dg (s.data.toList.drop p) 0 0).1 then (0, p, 11)
  else ((dg (s.data.toList.drop p) 0 0).1, p + (dg (s.data.toList.drop p) 0 0).2.1, 0)
theorem dg_used (l : List UInt8) (i v : Nat) : (dg l i v).2.1 ≤ i + l.length := by
  induction l generalizing i v with
  | nil => simp [dg]
  | cons d l ih =>
    rw [dg]
    split
    · simp
    · split
      · simp
      · split
        · have := ih (i + 1) (v + d.toNat % 128 * 128 ^ i); simp; omega
        · split <;> simp
set_option maxRecDepth 100000 in
set_option maxHeartbeats 800000 in
theorem rUint (a : Nat) (s : ByteArray) (p : Nat) (e : Int) (most : Nat) (w : World) (h : Rd w a s p e) :
    Calls Tryd.prog 76 #[.pointer (some ⟨a, 0, none⟩), .int .u64 most] w fun y w' => y = .returned (.int .u64 (uintS s p e most).1) ∧ Rt w w' a s (uintS s p e most).2.1 (uintS s p e most).2.2 := by
  have H := hide h
  have hle := h.le
  have hmx := h.max
  by_cases he : e = 0
  · subst he
    have hdig := fun (u : World) => rDigits (s.extract p s.size) u (by simp; omega)
    rw [extract_to_end] at hdig
    have hu := dg_used (s.data.toList.drop p) 0 0
    rw [List.length_drop, size_toList] at hu
    unfold uintS
    rw [if_neg (by simp)]
    generalize dg (s.data.toList.drop p) 0 0 = q at *
    obtain ⟨v, u, x⟩ := q
    simp only at hdig hu ⊢
    have HD := hide hdig
    clear hdig
    obtain ⟨h1, h2, h3, c0, c1, c2, f1, f2⟩ := h
    clear c2 f2
    have hpl : (p : Int) ≤ s.size := by omega
    by_cases hx : x = 0
    · subst hx
      rw [if_neg (by simp)]
      by_cases hv : most < v
      · rw [if_pos hv]
        go_enter Tryd.func76, Tryd.ntmps76
        go_wp2_with fail
        refine (rStop0 a s p _ (unhide H)).mono ?_
        rintro x w1 ⟨rfl, rfl⟩
        go_wp2_with fail
        go_quiet ((go_at_call 83; exact Calls.quiet_of_same ((unhide HD) _)))
        go_wp2_with fail
        refine (rFail0 a s p 11 _ ((unhide H).drewN _)).mono ?_
        rintro x w2 ⟨rfl, hp⟩
        have HP := hide hp
        clear hp
        go_wp2
        go_ret
        exact ⟨rfl, (unhide HP).1, ((Upd.refl _ _ _).drewN _).trans (unhide HP).2 (.inl rfl)⟩
      · rw [if_neg hv]
        go_enter Tryd.func76, Tryd.ntmps76
        go_wp2_with fail
        refine (rStop0 a s p _ (unhide H)).mono ?_
        rintro x w1 ⟨rfl, rfl⟩
        go_wp2_with fail
        go_quiet ((go_at_call 83; exact Calls.quiet_of_same ((unhide HD) _)))
        go_wp2
        go_ret
        have h' := ((unhide H).drewN nq).setAt (p + u) (by omega)
        rw [Int.natCast_add] at h'
        exact ⟨rfl, h', ((Upd.refl _ _ _).drewN _).setCell _ _⟩
    · rw [if_pos hx]
      have hxb : (x == 0) = false := by rw [beq_eq_false_iff_ne]; exact hx
      have hxb' : (x != 0) = true := by rw [bne_iff_ne]; exact hx
      clear hx
      go_enter Tryd.func76, Tryd.ntmps76
      go_wp2_with fail
      refine (rStop0 a s p _ (unhide H)).mono ?_
      rintro y w1 ⟨rfl, rfl⟩
      go_wp2_with fail
      go_quiet ((go_at_call 83; exact Calls.quiet_of_same ((unhide HD) _)))
      go_wp2_with fail
      refine (rFail0 a s p x _ ((unhide H).drewN _)).mono ?_
      rintro y w2 ⟨rfl, hp⟩
      have HP := hide hp
      clear hp
      go_wp2
      go_ret
      exact ⟨rfl, (unhide HP).1, ((Upd.refl _ _ _).drewN _).trans (unhide HP).2 (.inl rfl)⟩
  · have hr : uintS s p e most = (0, p, e) := if_pos he
    rw [hr]
    clear hr h
    have HE := hide he
    clear he
    go_enter Tryd.func76, Tryd.ntmps76
    go_wp2_with fail
    refine (rStop1 a s p e _ (unhide H) (unhide HE)).mono ?_
    rintro x w1 ⟨rfl, rfl⟩
    go_wp2
    go_ret
    exact ⟨rfl, Rt.refl (unhide H)⟩
theorem uintS_le (s : ByteArray) (p : Nat) (e : Int) (most : Nat) : (uintS s p e most).1 ≤ most := by
  unfold uintS
  split
  · simp
  · split
    · simp
    · split
      · simp
      · simp; omega
theorem uintS_pos (s : ByteArray) (p : Nat) (e : Int) (most : Nat) (h : p ≤ s.size) : (uintS s p e most).2.1 ≤ s.size ∧ p ≤ (uintS s p e most).2.1 := by
  have hu := dg_used (s.data.toList.drop p) 0 0
  rw [List.length_drop, size_toList] at hu
  unfold uintS
  split
  · simp [h]
  · split
    · simp [h]
    · split
      · simp [h]
      · simp; omega
end Go.Proofs.YtfdfbjijomepgaaDoor
