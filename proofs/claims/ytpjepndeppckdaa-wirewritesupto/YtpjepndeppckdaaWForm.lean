/- The document's forms: the rest, and the law's form of an item. -/
import Derived.Test.YtpjepndeppckdaaWUint
import Derived.Test.YtpjepndeppckdaaTake
namespace Go.Proofs.Ytpjepndeppckdaa
open Go.RowKit Go.Lib

theorem i64_rng (x : Int) : -9223372036854775808 ≤ wrap64 x ∧ wrap64 x < 9223372036854775808 := by
  unfold wrap64; omega
theorem wrap16_mod (v : Nat) : ((IntKind.i16.wrap (v : Int)) % 65536).toNat = v % 65536 := by
  simp only [IntKind.wrap, IntKind.bits, IntKind.signed]
  simp
  omega
theorem wrap16_rng (x : Int) : -32768 ≤ IntKind.i16.wrap x ∧ IntKind.i16.wrap x < 32768 := by
  simp only [IntKind.wrap, IntKind.bits, IntKind.signed]
  simp
  omega
theorem mwSmall (v : Int) (w : World) (h0 : -32768 ≤ v) (h1 : v < 32768) :
    Calls Try.prog 43 #[.int .i16 v] w fun e w' => e = .returned (.string ⟨(fixB (v % 65536).toNat 2).toArray⟩) ∧ Below w.heap.size w w' := by
  by_cases hv : v < 0
  · have HF := hide (mwFixed (v % 65536).toNat 2 w (by omega) (by omega))
    have hx : v + 65536 = (((v % 65536).toNat : Nat) : Int) := by omega
    generalize fixB (v % 65536).toNat 2 = F at *
    have HX := hide hx
    clear hx
    go_enter Try.func43, Try.ntmps43
    go_wp2_with fail
    rw [unhide HX]
    refine (unhide HF).mono ?_
    rintro e w1 ⟨rfl, hb⟩
    have HB := hide hb
    clear hb
    go_wp2
    go_ret
    exact ⟨rfl, unhide HB⟩
  · have HF := hide (mwFixed (v % 65536).toNat 2 w (by omega) (by omega))
    have hx : v = (((v % 65536).toNat : Nat) : Int) := by omega
    generalize fixB (v % 65536).toNat 2 = F at *
    have HX := hide hx
    clear hx
    go_enter Try.func43, Try.ntmps43
    go_wp2_with fail
    have hg : ∀ (K : Ending → World → Prop), Calls Try.prog 42 #[.int .u64 (((v % 65536).toNat : Nat) : Int), .int .i64 2] w K → Calls Try.prog 42 #[.int .u64 v, .int .i64 2] w K := fun K hK => by rw [unhide HX]; rw [← unhide HX]; rw [← unhide HX] at hK; exact hK
    refine hg _ ((unhide HF).mono ?_)
    rintro e w1 ⟨rfl, hb⟩
    have HB := hide hb
    clear hb hg
    go_wp2
    go_ret
    exact ⟨rfl, unhide HB⟩
theorem mwZig (v : Int) (w : World) (h0 : -9223372036854775808 ≤ v) (h1 : v < 9223372036854775808) :
    Calls Try.prog 59 #[.int .i64 v] w fun e w' => e = .returned (.int .u64 (zig v : Nat)) ∧ w' = w := by
  by_cases hv : 0 ≤ v
  · have hz : ((zig v : Nat) : Int) = 2 * v := by unfold zig; rw [if_pos hv]; omega
    rw [hz]
    clear hz
    go_enter Try.func59, Try.ntmps59
    go_wp2
    go_ret
    exact ⟨rfl, rfl⟩
  · have hz : ((zig v : Nat) : Int) = -2 * v - 1 := by unfold zig; rw [if_neg hv]; omega
    rw [hz]
    clear hz
    go_enter Try.func59, Try.ntmps59
    go_wp2
    go_ret
    exact ⟨ret_int (a := 2 * -(v + 1) + 1) (by omega), rfl⟩
theorem mwBits (b : Nat) (w : World) :
    Calls Try.prog 60 #[.float .f64 b] w fun e w' => e = .returned (.int .u64 (fltB b : Nat)) ∧ w' = w := by
  by_cases ha : isNan b = true
  · have hf : fltB b = 9221120237041090560 := if_pos ha
    rw [hf]
    unfold isNan at ha
    clear hf
    go_enter Try.func60, Try.ntmps60
    go_wp2
    go_ret
    exact ⟨rfl, rfl⟩
  · have hf : fltB b = b := if_neg ha
    rw [hf]
    have ha : isNan b = false := by simpa using ha
    unfold isNan at ha
    clear hf
    go_enter Try.func60, Try.ntmps60
    go_wp2
    go_ret
    exact ⟨rfl, rfl⟩
theorem mwInt (v : Int) (w : World) (h0 : -9223372036854775808 ≤ v) (h1 : v < 9223372036854775808) :
    Calls Try.prog 46 #[.int .i64 v] w fun e w' => e = .returned (.string ⟨(uintB 9 (zig v)).toArray⟩) ∧ Below w.heap.size w w' := by
  have hz : zig v < 18446744073709551616 := by unfold zig; split <;> omega
  have HZ := hide (mwZig v w h0 h1)
  have HU := hide (mwUint (zig v) w hz)
  generalize uintB 9 (zig v) = F at *
  generalize zig v = Z at *
  clear h0 h1 hz
  go_enter Try.func46, Try.ntmps46
  go_wp2_with fail
  refine (unhide HZ).mono ?_
  rintro e w1 ⟨rfl, rfl⟩
  go_wp2_with fail
  refine (unhide HU).mono ?_
  rintro e w1 ⟨rfl, hb⟩
  have HB := hide hb
  clear hb
  go_wp2
  go_ret
  exact ⟨rfl, unhide HB⟩
theorem fltB_lt (b : Nat) (hb : b < 18446744073709551616) : fltB b < 18446744073709551616 := by unfold fltB; split <;> omega
theorem mwFloat (b : Nat) (w : World) (hb : b < 18446744073709551616) :
    Calls Try.prog 47 #[.float .f64 b] w fun e w' => e = .returned (.string ⟨(fixB (fltB b) 8).toArray⟩) ∧ Below w.heap.size w w' := by
  have HZ := hide (mwBits b w)
  have HU := hide (mwFixed (fltB b) 8 w (fltB_lt b hb) (by omega))
  generalize fixB (fltB b) 8 = F at *
  generalize fltB b = Z at *
  clear hb
  go_enter Try.func47, Try.ntmps47
  go_wp2_with fail
  refine (unhide HZ).mono ?_
  rintro e w1 ⟨rfl, rfl⟩
  go_wp2_with fail
  refine (unhide HU).mono ?_
  rintro e w1 ⟨rfl, hb⟩
  have HB := hide hb
  clear hb
  go_wp2
  go_ret
  exact ⟨rfl, unhide HB⟩
theorem mwText (t : ByteArray) (w : World) (ht : t.size ≤ 1048576) :
    Calls Try.prog 48 #[.string t] w fun e w' => e = .returned (.string ⟨(uintB 9 t.size ++ t.data.toList).toArray⟩) ∧ Below w.heap.size w w' := by
  have HU := hide (mwUint t.size w (by omega))
  have hl := (uintB_length 9 t.size).2
  have he : (⟨(uintB 9 t.size ++ t.data.toList).toArray⟩ : ByteArray) = ⟨(uintB 9 t.size).toArray⟩ ++ t := by
    apply ByteArray.ext
    simp [ByteArray.data_append]
  rw [he]
  have hsz : (⟨(uintB 9 t.size).toArray⟩ : ByteArray).size ≤ 10 := by
    show (uintB 9 t.size).toArray.size ≤ 10
    rw [List.size_toArray]; exact hl
  generalize (⟨(uintB 9 t.size).toArray⟩ : ByteArray) = F at *
  clear he hl
  go_enter Try.func48, Try.ntmps48
  go_wp2_with fail
  refine (unhide HU).mono ?_
  rintro e w1 ⟨rfl, hb⟩
  have HB := hide hb
  clear hb
  go_wp2
  go_ret
  exact ⟨rfl, unhide HB⟩
set_option maxRecDepth 100000 in
set_option maxHeartbeats 1000000 in
theorem form0 (who n : Int) (v : Nat) (t : ByteArray) (w : World) (hv : v < 18446744073709551616) :
    Calls Try.prog 24 #[.agg #[.int .i64 who, .int .i64 0, .int .i64 n, .int .u64 v, .string t]] w fun e w' => e = .returned (.tuple #[.string ⟨([UInt8.ofNat (v % 256)]).toArray⟩, .int .i64 0]) ∧ Below w.heap.size w w' := by
  have HW : Hid (Below w.heap.size w (w.alloc (.cells #[.int .i64 who, .int .i64 0, .int .i64 n, .int .u64 v, .string t] 28))) := (Below.refl _ _).alloc (Nat.le_refl _) _
  have hv2 : ((v : Int) % 256) = ((v % 256 : Nat) : Int) := by omega
  have HF := hide (fun u => mwFixed (v % 256) 1 u (by omega) (by omega))
  have HV2 := hide hv2
  clear hv2
  go_enter Try.func24, Try.ntmps24
  go_wp2_with fail
  rw [unhide HV2]
  refine (unhide HF _).mono ?_
  rintro e w1 ⟨rfl, hb⟩
  have HB := hide hb
  clear hb
  go_wp2
  go_ret2
  exact ⟨by simp [fixB], (unhide HW).trans ((unhide HB).mono (by simp))⟩
set_option maxRecDepth 100000 in
set_option maxHeartbeats 1000000 in
theorem form1 (who n : Int) (v : Nat) (t : ByteArray) (w : World) (_hv : v < 18446744073709551616) :
    Calls Try.prog 24 #[.agg #[.int .i64 who, .int .i64 1, .int .i64 n, .int .u64 v, .string t]] w fun e w' => e = .returned (.tuple #[.string ⟨(fixB (v % 65536) 2).toArray⟩, .int .i64 0]) ∧ Below w.heap.size w w' := by
  have HW : Hid (Below w.heap.size w (w.alloc (.cells #[.int .i64 who, .int .i64 1, .int .i64 n, .int .u64 v, .string t] 28))) := (Below.refl _ _).alloc (Nat.le_refl _) _
  have HF := hide (fun u => mwSmall (IntKind.i16.wrap (v : Int)) u (wrap16_rng _).1 (wrap16_rng _).2)
  have HV := hide (wrap16_mod v)
  go_enter Try.func24, Try.ntmps24
  go_wp2_with fail
  refine (unhide HF _).mono ?_
  rintro e w1 ⟨rfl, hb⟩
  have HB := hide hb
  clear hb
  go_wp2
  go_ret2
  rw [unhide HV]
  exact ⟨rfl, (unhide HW).trans ((unhide HB).mono (by simp))⟩
set_option maxRecDepth 100000 in
set_option maxHeartbeats 1000000 in
theorem form2 (who n : Int) (v : Nat) (t : ByteArray) (w : World) (hv : v < 18446744073709551616) (f1 : 1 ≤ n) (f2 : n ≤ 8) (f3 : v < 256 ^ n.toNat) :
    Calls Try.prog 24 #[.agg #[.int .i64 who, .int .i64 2, .int .i64 n, .int .u64 v, .string t]] w fun e w' => e = .returned (.tuple #[.string ⟨(fixB v n.toNat).toArray⟩, .int .i64 0]) ∧ Below w.heap.size w w' := by
  have HW : Hid (Below w.heap.size w (w.alloc (.cells #[.int .i64 who, .int .i64 2, .int .i64 n, .int .u64 v, .string t] 28))) := (Below.refl _ _).alloc (Nat.le_refl _) _
  have hd : decide (1 ≤ n ∧ n ≤ 8 ∧ v < 256 ^ n.toNat) = true := by rw [decide_eq_true_eq]; exact ⟨f1, f2, f3⟩
  have HT := hide (fun u => mwFits v n u hv)
  rw [hd] at HT
  obtain ⟨N, rfl⟩ := Int.eq_ofNat_of_zero_le (by omega : 0 ≤ n)
  have HF := hide (fun u => mwFixed v N u hv (by omega))
  rw [Int.toNat_natCast]
  generalize fixB v N = F at *
  clear hd f3
  go_enter Try.func24, Try.ntmps24
  go_wp2_with fail
  refine (unhide HT _).mono ?_
  rintro e w1 ⟨rfl, rfl⟩
  go_wp2_with fail
  refine (unhide HF _).mono ?_
  rintro e w1 ⟨rfl, hb⟩
  have HB := hide hb
  clear hb
  go_wp2
  go_ret2
  exact ⟨rfl, (unhide HW).trans ((unhide HB).mono (by simp))⟩
set_option maxRecDepth 100000 in
set_option maxHeartbeats 1000000 in
theorem form2b (who n : Int) (v : Nat) (t : ByteArray) (w : World) (hv : v < 18446744073709551616) (hf : ¬ (1 ≤ n ∧ n ≤ 8 ∧ v < 256 ^ n.toNat)) :
    Calls Try.prog 24 #[.agg #[.int .i64 who, .int .i64 2, .int .i64 n, .int .u64 v, .string t]] w fun e w' => e = .returned (.tuple #[.string ⟨#[]⟩, .int .i64 1]) ∧ Below w.heap.size w w' := by
  have HW : Hid (Below w.heap.size w (w.alloc (.cells #[.int .i64 who, .int .i64 2, .int .i64 n, .int .u64 v, .string t] 28))) := (Below.refl _ _).alloc (Nat.le_refl _) _
  have hd : decide (1 ≤ n ∧ n ≤ 8 ∧ v < 256 ^ n.toNat) = false := by rw [decide_eq_false_iff_not]; exact hf
  have HT := hide (fun u => mwFits v n u hv)
  rw [hd] at HT
  clear hd hf
  go_enter Try.func24, Try.ntmps24
  go_wp2_with fail
  refine (unhide HT _).mono ?_
  rintro e w1 ⟨rfl, rfl⟩
  go_wp2
  go_ret2
  exact ⟨rfl, unhide HW⟩
set_option maxRecDepth 100000 in
set_option maxHeartbeats 1000000 in
theorem form3 (who n : Int) (v : Nat) (t : ByteArray) (w : World) (hv : v < 18446744073709551616) :
    Calls Try.prog 24 #[.agg #[.int .i64 who, .int .i64 3, .int .i64 n, .int .u64 v, .string t]] w fun e w' => e = .returned (.tuple #[.string ⟨(uintB 9 v).toArray⟩, .int .i64 0]) ∧ Below w.heap.size w w' := by
  have HW : Hid (Below w.heap.size w (w.alloc (.cells #[.int .i64 who, .int .i64 3, .int .i64 n, .int .u64 v, .string t] 28))) := (Below.refl _ _).alloc (Nat.le_refl _) _
  have HF := hide (fun u => mwUint v u hv)
  generalize uintB 9 v = F at *
  go_enter Try.func24, Try.ntmps24
  go_wp2_with fail
  refine (unhide HF _).mono ?_
  rintro e w1 ⟨rfl, hb⟩
  have HB := hide hb
  clear hb
  go_wp2
  go_ret2
  exact ⟨rfl, (unhide HW).trans ((unhide HB).mono (by simp))⟩
set_option maxRecDepth 100000 in
set_option maxHeartbeats 1000000 in
theorem form4 (who n : Int) (v : Nat) (t : ByteArray) (w : World) (_hv : v < 18446744073709551616) :
    Calls Try.prog 24 #[.agg #[.int .i64 who, .int .i64 4, .int .i64 n, .int .u64 v, .string t]] w fun e w' => e = .returned (.tuple #[.string ⟨(uintB 9 (zig (wrap64 v))).toArray⟩, .int .i64 0]) ∧ Below w.heap.size w w' := by
  have HW : Hid (Below w.heap.size w (w.alloc (.cells #[.int .i64 who, .int .i64 4, .int .i64 n, .int .u64 v, .string t] 28))) := (Below.refl _ _).alloc (Nat.le_refl _) _
  have HF := hide (fun u => mwInt (wrap64 v) u (i64_rng _).1 (i64_rng _).2)
  generalize uintB 9 (zig (wrap64 v)) = F at *
  go_enter Try.func24, Try.ntmps24
  go_wp2_with fail
  refine (unhide HF _).mono ?_
  rintro e w1 ⟨rfl, hb⟩
  have HB := hide hb
  clear hb
  go_wp2
  go_ret2
  exact ⟨rfl, (unhide HW).trans ((unhide HB).mono (by simp))⟩
set_option maxRecDepth 100000 in
set_option maxHeartbeats 1000000 in
theorem form5 (who n : Int) (v : Nat) (t : ByteArray) (w : World) (hv : v < 18446744073709551616) :
    Calls Try.prog 24 #[.agg #[.int .i64 who, .int .i64 5, .int .i64 n, .int .u64 v, .string t]] w fun e w' => e = .returned (.tuple #[.string ⟨(fixB (fltB v) 8).toArray⟩, .int .i64 0]) ∧ Below w.heap.size w w' := by
  have HW : Hid (Below w.heap.size w (w.alloc (.cells #[.int .i64 who, .int .i64 5, .int .i64 n, .int .u64 v, .string t] 28))) := (Below.refl _ _).alloc (Nat.le_refl _) _
  have HF := hide (fun u => mwFloat v u hv)
  generalize fixB (fltB v) 8 = F at *
  go_enter Try.func24, Try.ntmps24
  go_wp2_with fail
  refine (unhide HF _).mono ?_
  rintro e w1 ⟨rfl, hb⟩
  have HB := hide hb
  clear hb
  go_wp2
  go_ret2
  exact ⟨rfl, (unhide HW).trans ((unhide HB).mono (by simp))⟩
set_option maxRecDepth 100000 in
set_option maxHeartbeats 1000000 in
theorem form6 (who n : Int) (v : Nat) (t : ByteArray) (w : World) (_hv : v < 18446744073709551616) (ht : t.size ≤ 1048576) :
    Calls Try.prog 24 #[.agg #[.int .i64 who, .int .i64 6, .int .i64 n, .int .u64 v, .string t]] w fun e w' => e = .returned (.tuple #[.string ⟨(uintB 9 t.size ++ t.data.toList).toArray⟩, .int .i64 0]) ∧ Below w.heap.size w w' := by
  have HW : Hid (Below w.heap.size w (w.alloc (.cells #[.int .i64 who, .int .i64 6, .int .i64 n, .int .u64 v, .string t] 28))) := (Below.refl _ _).alloc (Nat.le_refl _) _
  have HF := hide (fun u => mwText t u ht)
  generalize (⟨(uintB 9 t.size ++ t.data.toList).toArray⟩ : ByteArray) = F at *
  go_enter Try.func24, Try.ntmps24
  go_wp2_with fail
  refine (unhide HF _).mono ?_
  rintro e w1 ⟨rfl, hb⟩
  have HB := hide hb
  clear hb
  go_wp2
  go_ret2
  exact ⟨rfl, (unhide HW).trans ((unhide HB).mono (by simp))⟩
set_option maxRecDepth 100000 in
set_option maxHeartbeats 1000000 in
theorem form7 (who n : Int) (v : Nat) (t : ByteArray) (w : World) (_hv : v < 18446744073709551616) :
    Calls Try.prog 24 #[.agg #[.int .i64 who, .int .i64 7, .int .i64 n, .int .u64 v, .string t]] w fun e w' => e = .returned (.tuple #[.string t, .int .i64 0]) ∧ Below w.heap.size w w' := by
  have HW : Hid (Below w.heap.size w (w.alloc (.cells #[.int .i64 who, .int .i64 7, .int .i64 n, .int .u64 v, .string t] 28))) := (Below.refl _ _).alloc (Nat.le_refl _) _
  go_enter Try.func24, Try.ntmps24
  go_wp2
  go_ret2
  exact ⟨rfl, unhide HW⟩
set_option maxRecDepth 100000 in
set_option maxHeartbeats 1000000 in
theorem form9 (who kind n : Int) (v : Nat) (t : ByteArray) (w : World) (_hv : v < 18446744073709551616) (hk : kind < 0 ∨ 7 < kind) :
    Calls Try.prog 24 #[.agg #[.int .i64 who, .int .i64 kind, .int .i64 n, .int .u64 v, .string t]] w fun e w' => e = .returned (.tuple #[.string ⟨#[]⟩, .int .i64 0]) ∧ Below w.heap.size w w' := by
  have HW : Hid (Below w.heap.size w (w.alloc (.cells #[.int .i64 who, .int .i64 kind, .int .i64 n, .int .u64 v, .string t] 28))) := (Below.refl _ _).alloc (Nat.le_refl _) _
  have k0 : (kind == 0) = false := by rw [beq_eq_false_iff_ne]; omega
  have k1 : (kind == 1) = false := by rw [beq_eq_false_iff_ne]; omega
  have k2 : (kind == 2) = false := by rw [beq_eq_false_iff_ne]; omega
  have k3 : (kind == 3) = false := by rw [beq_eq_false_iff_ne]; omega
  have k4 : (kind == 4) = false := by rw [beq_eq_false_iff_ne]; omega
  have k5 : (kind == 5) = false := by rw [beq_eq_false_iff_ne]; omega
  have k6 : (kind == 6) = false := by rw [beq_eq_false_iff_ne]; omega
  have k7 : (kind == 7) = false := by rw [beq_eq_false_iff_ne]; omega
  clear hk
  go_enter Try.func24, Try.ntmps24
  go_wp2
  go_ret2
  exact ⟨rfl, unhide HW⟩
end Go.Proofs.Ytpjepndeppckdaa
