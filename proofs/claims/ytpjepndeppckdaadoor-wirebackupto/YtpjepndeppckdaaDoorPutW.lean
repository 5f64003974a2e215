/- What putting an item puts. -/
import Derived.Test.YtpjepndeppckdaaDoorPut
namespace Go.Proofs.YtpjepndeppckdaaDoor
open Go.RowKit Go.Lib

theorem i64_rng (x : Int) : -9223372036854775808 ≤ wrap64 x ∧ wrap64 x < 9223372036854775808 := by
  unfold wrap64; omega
theorem wrap16_mod (v : Nat) : ((IntKind.i16.wrap (v : Int)) % 65536).toNat = v % 65536 := by
  simp only [IntKind.wrap, IntKind.bits, IntKind.signed]
  simp
  omega
set_option maxRecDepth 100000 in
set_option maxHeartbeats 1000000 in
theorem put0 (who n : Int) (v : Nat) (t : ByteArray) (_hv : v < 18446744073709551616) (b r : Nat) (bs : List UInt8) (w : World) (hw : Wr w b r bs) (hl : bs.length + t.size + 10 ≤ 140737488355328) :
    Calls Tryd.prog 19 #[.pointer (some ⟨b, 0, none⟩), .agg #[.int .i64 who, .int .i64 0, .int .i64 n, .int .u64 v, .string t]] w fun e w' => e = .returned (.int .i64 0) ∧ ∃ r', Put w w' b r r' (bs ++ [UInt8.ofNat (v % 256)]) := by
  have HW := hide (hw.alloc (.cells #[.int .i64 who, .int .i64 0, .int .i64 n, .int .u64 v, .string t] 35))
  clear hw
  go_enter Tryd.func19, Tryd.ntmps19
  go_wp2_with fail
  refine (wByte b r bs _ _ (unhide HW) (by omega) (by omega) (by omega)).mono ?_
  rintro e w2 ⟨rfl, r2, hp⟩
  have H2 := hide hp
  clear hp
  go_wp2
  go_ret
  refine ⟨rfl, r2, ?_⟩
  have hp := (unhide H2).alloc'
  rw [show ((v : Int) % 256).toNat = v % 256 from by omega] at hp
  exact hp
set_option maxRecDepth 100000 in
set_option maxHeartbeats 1000000 in
theorem put1 (who n : Int) (v : Nat) (t : ByteArray) (_hv : v < 18446744073709551616) (b r : Nat) (bs : List UInt8) (w : World) (hw : Wr w b r bs) (hl : bs.length + t.size + 10 ≤ 140737488355328) :
    Calls Tryd.prog 19 #[.pointer (some ⟨b, 0, none⟩), .agg #[.int .i64 who, .int .i64 1, .int .i64 n, .int .u64 v, .string t]] w fun e w' => e = .returned (.int .i64 0) ∧ ∃ r', Put w w' b r r' (bs ++ fixB (v % 65536) 2) := by
  have HW := hide (hw.alloc (.cells #[.int .i64 who, .int .i64 1, .int .i64 n, .int .u64 v, .string t] 35))
  clear hw
  go_enter Tryd.func19, Tryd.ntmps19
  go_wp2_with fail
  refine (wSmall b r bs _ _ (unhide HW) (wrap16_rng _).1 (wrap16_rng _).2 (by omega)).mono ?_
  rintro e w2 ⟨rfl, r2, hp⟩
  have H2 := hide hp
  clear hp
  go_wp2
  go_ret
  refine ⟨rfl, r2, ?_⟩
  have hp := (unhide H2).alloc'
  rw [wrap16_mod] at hp
  exact hp
set_option maxRecDepth 100000 in
set_option maxHeartbeats 1000000 in
theorem put2 (who n : Int) (v : Nat) (t : ByteArray) (_hv : v < 18446744073709551616) (f1 : 1 ≤ n) (f2 : n ≤ 8) (f3 : v < 256 ^ n.toNat) (b r : Nat) (bs : List UInt8) (w : World) (hw : Wr w b r bs) (hl : bs.length + t.size + 10 ≤ 140737488355328) :
    Calls Tryd.prog 19 #[.pointer (some ⟨b, 0, none⟩), .agg #[.int .i64 who, .int .i64 2, .int .i64 n, .int .u64 v, .string t]] w fun e w' => e = .returned (.int .i64 0) ∧ ∃ r', Put w w' b r r' (bs ++ fixB v n.toNat) := by
  have HW := hide (hw.alloc (.cells #[.int .i64 who, .int .i64 2, .int .i64 n, .int .u64 v, .string t] 35))
  clear hw
  have HF3 := hide f3
  clear f3
  go_enter Tryd.func19, Tryd.ntmps19
  go_wp2_with fail
  refine (wFixed b r bs v n _ (unhide HW) f1 f2 (unhide HF3) (by omega)).mono ?_
  rintro e w2 ⟨rfl, r2, hp⟩
  have H2 := hide hp
  clear hp
  go_wp2
  go_ret
  refine ⟨rfl, r2, ?_⟩
  have hp := (unhide H2).alloc'
  exact hp
set_option maxRecDepth 100000 in
set_option maxHeartbeats 1000000 in
theorem put3 (who n : Int) (v : Nat) (t : ByteArray) (hv : v < 18446744073709551616) (b r : Nat) (bs : List UInt8) (w : World) (hw : Wr w b r bs) (hl : bs.length + t.size + 10 ≤ 140737488355328) :
    Calls Tryd.prog 19 #[.pointer (some ⟨b, 0, none⟩), .agg #[.int .i64 who, .int .i64 3, .int .i64 n, .int .u64 v, .string t]] w fun e w' => e = .returned (.int .i64 0) ∧ ∃ r', Put w w' b r r' (bs ++ uintB 9 v) := by
  have HW := hide (hw.alloc (.cells #[.int .i64 who, .int .i64 3, .int .i64 n, .int .u64 v, .string t] 35))
  clear hw
  go_enter Tryd.func19, Tryd.ntmps19
  go_wp2_with fail
  refine (wUintI b r bs _ _ (unhide HW) (by omega) (by omega) (by omega)).mono ?_
  rintro e w2 ⟨rfl, r2, hp⟩
  have H2 := hide hp
  clear hp
  go_wp2
  go_ret
  refine ⟨rfl, r2, ?_⟩
  have hp := (unhide H2).alloc'
  rw [Int.toNat_natCast] at hp
  exact hp
set_option maxRecDepth 100000 in
set_option maxHeartbeats 1000000 in
theorem put4 (who n : Int) (v : Nat) (t : ByteArray) (_hv : v < 18446744073709551616) (b r : Nat) (bs : List UInt8) (w : World) (hw : Wr w b r bs) (hl : bs.length + t.size + 10 ≤ 140737488355328) :
    Calls Tryd.prog 19 #[.pointer (some ⟨b, 0, none⟩), .agg #[.int .i64 who, .int .i64 4, .int .i64 n, .int .u64 v, .string t]] w fun e w' => e = .returned (.int .i64 0) ∧ ∃ r', Put w w' b r r' (bs ++ uintB 9 (zig (wrap64 v))) := by
  have HW := hide (hw.alloc (.cells #[.int .i64 who, .int .i64 4, .int .i64 n, .int .u64 v, .string t] 35))
  clear hw
  go_enter Tryd.func19, Tryd.ntmps19
  go_wp2_with fail
  refine (wInt b r bs _ _ (unhide HW) (i64_rng _).1 (i64_rng _).2 (by omega)).mono ?_
  rintro e w2 ⟨rfl, r2, hp⟩
  have H2 := hide hp
  clear hp
  go_wp2
  go_ret
  refine ⟨rfl, r2, ?_⟩
  have hp := (unhide H2).alloc'
  exact hp
set_option maxRecDepth 100000 in
set_option maxHeartbeats 1000000 in
theorem put5 (who n : Int) (v : Nat) (t : ByteArray) (_hv : v < 18446744073709551616) (b r : Nat) (bs : List UInt8) (w : World) (hw : Wr w b r bs) (hl : bs.length + t.size + 10 ≤ 140737488355328) :
    Calls Tryd.prog 19 #[.pointer (some ⟨b, 0, none⟩), .agg #[.int .i64 who, .int .i64 5, .int .i64 n, .int .u64 v, .string t]] w fun e w' => e = .returned (.int .i64 0) ∧ ∃ r', Put w w' b r r' (bs ++ fixB (fltB v) 8) := by
  have HW := hide (hw.alloc (.cells #[.int .i64 who, .int .i64 5, .int .i64 n, .int .u64 v, .string t] 35))
  clear hw
  go_enter Tryd.func19, Tryd.ntmps19
  go_wp2_with fail
  refine (wFloat b r bs v _ (unhide HW) (by omega)).mono ?_
  rintro e w2 ⟨rfl, r2, hp⟩
  have H2 := hide hp
  clear hp
  go_wp2
  go_ret
  refine ⟨rfl, r2, ?_⟩
  have hp := (unhide H2).alloc'
  exact hp
set_option maxRecDepth 100000 in
set_option maxHeartbeats 1000000 in
theorem put6 (who n : Int) (v : Nat) (t : ByteArray) (_hv : v < 18446744073709551616) (b r : Nat) (bs : List UInt8) (w : World) (hw : Wr w b r bs) (hl : bs.length + t.size + 10 ≤ 140737488355328) :
    Calls Tryd.prog 19 #[.pointer (some ⟨b, 0, none⟩), .agg #[.int .i64 who, .int .i64 6, .int .i64 n, .int .u64 v, .string t]] w fun e w' => e = .returned (.int .i64 0) ∧ ∃ r', Put w w' b r r' (bs ++ (uintB 9 t.size ++ t.data.toList)) := by
  have HW := hide (hw.alloc (.cells #[.int .i64 who, .int .i64 6, .int .i64 n, .int .u64 v, .string t] 35))
  clear hw
  go_enter Tryd.func19, Tryd.ntmps19
  go_wp2_with fail
  refine (wText b r bs t _ (unhide HW) (by omega)).mono ?_
  rintro e w2 ⟨rfl, r2, hp⟩
  have H2 := hide hp
  clear hp
  go_wp2
  go_ret
  refine ⟨rfl, r2, ?_⟩
  have hp := (unhide H2).alloc'
  exact hp
set_option maxRecDepth 100000 in
set_option maxHeartbeats 1000000 in
theorem put7 (who n : Int) (v : Nat) (t : ByteArray) (_hv : v < 18446744073709551616) (b r : Nat) (bs : List UInt8) (w : World) (hw : Wr w b r bs) (hl : bs.length + t.size + 10 ≤ 140737488355328) :
    Calls Tryd.prog 19 #[.pointer (some ⟨b, 0, none⟩), .agg #[.int .i64 who, .int .i64 7, .int .i64 n, .int .u64 v, .string t]] w fun e w' => e = .returned (.int .i64 0) ∧ ∃ r', Put w w' b r r' (bs ++ t.data.toList) := by
  have HW := hide (hw.alloc (.cells #[.int .i64 who, .int .i64 7, .int .i64 n, .int .u64 v, .string t] 35))
  clear hw
  go_enter Tryd.func19, Tryd.ntmps19
  go_wp2_with fail
  refine (wRaw b r bs t _ (unhide HW) (by omega)).mono ?_
  rintro e w2 ⟨rfl, r2, hp⟩
  have H2 := hide hp
  clear hp
  go_wp2
  go_ret
  refine ⟨rfl, r2, ?_⟩
  have hp := (unhide H2).alloc'
  exact hp
theorem put_walk (x : It) (hx : x.Ok) (hfit : fitB x = true) (b r : Nat) (bs : List UInt8) (w : World) (hw : Wr w b r bs) (hl : bs.length + x.s.size + 10 ≤ 140737488355328) :
    Calls Tryd.prog 19 #[.pointer (some ⟨b, 0, none⟩), x.val] w fun e w' => e = .returned (.int .i64 0) ∧ ∃ r', Put w w' b r r' (bs ++ x.form) := by
  obtain ⟨who, kind, n, v, t⟩ := x
  have hv := hx.v
  simp only at hv hl
  unfold It.val It.form
  simp only
  unfold fitB at hfit
  simp only at hfit
  by_cases k0 : kind = 0
  · subst k0; rw [if_pos rfl]; exact put0 who n v t hv b r bs w hw hl
  · rw [if_neg k0]
    by_cases k1 : kind = 1
    · subst k1; rw [if_pos rfl]; exact put1 who n v t hv b r bs w hw hl
    · rw [if_neg k1]
      by_cases k2 : kind = 2
      · subst k2
        rw [if_pos rfl, decide_eq_true_eq] at hfit
        rw [if_pos rfl]; exact put2 who n v t hv hfit.1 hfit.2.1 hfit.2.2 b r bs w hw hl
      · rw [if_neg k2]
        rw [if_neg k2, decide_eq_true_eq] at hfit
        by_cases k3 : kind = 3
        · subst k3; rw [if_pos rfl]; exact put3 who n v t hv b r bs w hw hl
        · rw [if_neg k3]
          by_cases k4 : kind = 4
          · subst k4; rw [if_pos rfl]; exact put4 who n v t hv b r bs w hw hl
          · rw [if_neg k4]
            by_cases k5 : kind = 5
            · subst k5; rw [if_pos rfl]; exact put5 who n v t hv b r bs w hw hl
            · rw [if_neg k5]
              by_cases k6 : kind = 6
              · subst k6; rw [if_pos rfl]; exact put6 who n v t hv b r bs w hw hl
              · rw [if_neg k6]
                obtain rfl : kind = 7 := by omega
                exact put7 who n v t hv b r bs w hw hl
end Go.Proofs.YtpjepndeppckdaaDoor
