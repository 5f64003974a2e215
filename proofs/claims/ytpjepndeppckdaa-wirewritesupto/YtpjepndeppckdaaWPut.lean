/- What putting an item puts: the plain seat's. -/
import Derived.Test.YtpjepndeppckdaaWForm
namespace Go.Proofs.Ytpjepndeppckdaa
open Go.RowKit Go.Lib

set_option maxRecDepth 100000 in
set_option maxHeartbeats 1000000 in
theorem put0 (who n : Int) (v : Nat) (t : ByteArray) (_hv : v < 18446744073709551616) (b r : Nat) (bs : List UInt8) (w : World) (hw : Wr w b r bs) (hl : bs.length + t.size + 10 ≤ 140737488355328) :
    Calls Try.prog 6 #[.pointer (some ⟨b, 0, none⟩), .agg #[.int .i64 who, .int .i64 0, .int .i64 n, .int .u64 v, .string t]] w fun e w' => e = .returned (.int .i64 0) ∧ ∃ r', Put w w' b r r' (bs ++ [UInt8.ofNat (v % 256)]) := by
  have HW := hide (hw.alloc (.cells #[.int .i64 who, .int .i64 0, .int .i64 n, .int .u64 v, .string t] 28))
  clear hw
  go_enter Try.func6, Try.ntmps6
  go_wp2_with fail
  refine (wByte b r bs _ _ (unhide HW) (by omega) (by omega) (by omega)).mono ?_
  rintro e w2 ⟨rfl, r2, hp⟩
  have H2 := hide hp
  clear hp
  go_wp2
  go_ret
  refine ⟨rfl, r2, ?_⟩
  have hp := (unhide H2).alloc'
  rw [show ((v : Int) % 256).toNat = v % 256 from by omega] at hp
  exact hp
set_option maxRecDepth 100000 in
set_option maxHeartbeats 1000000 in
theorem put1 (who n : Int) (v : Nat) (t : ByteArray) (_hv : v < 18446744073709551616) (b r : Nat) (bs : List UInt8) (w : World) (hw : Wr w b r bs) (hl : bs.length + t.size + 10 ≤ 140737488355328) :
    Calls Try.prog 6 #[.pointer (some ⟨b, 0, none⟩), .agg #[.int .i64 who, .int .i64 1, .int .i64 n, .int .u64 v, .string t]] w fun e w' => e = .returned (.int .i64 0) ∧ ∃ r', Put w w' b r r' (bs ++ fixB (v % 65536) 2) := by
  have HW := hide (hw.alloc (.cells #[.int .i64 who, .int .i64 1, .int .i64 n, .int .u64 v, .string t] 28))
  clear hw
  go_enter Try.func6, Try.ntmps6
  go_wp2_with fail
  refine (wSmall b r bs _ _ (unhide HW) (wrap16_rng _).1 (wrap16_rng _).2 (by omega)).mono ?_
  rintro e w2 ⟨rfl, r2, hp⟩
  have H2 := hide hp
  clear hp
  go_wp2
  go_ret
  refine ⟨rfl, r2, ?_⟩
  have hp := (unhide H2).alloc'
  rw [wrap16_mod] at hp
  exact hp
set_option maxRecDepth 100000 in
set_option maxHeartbeats 1000000 in
theorem put2 (who n : Int) (v : Nat) (t : ByteArray) (_hv : v < 18446744073709551616) (f1 : 1 ≤ n) (f2 : n ≤ 8) (f3 : v < 256 ^ n.toNat) (b r : Nat) (bs : List UInt8) (w : World) (hw : Wr w b r bs) (hl : bs.length + t.size + 10 ≤ 140737488355328) :
    Calls Try.prog 6 #[.pointer (some ⟨b, 0, none⟩), .agg #[.int .i64 who, .int .i64 2, .int .i64 n, .int .u64 v, .string t]] w fun e w' => e = .returned (.int .i64 0) ∧ ∃ r', Put w w' b r r' (bs ++ fixB v n.toNat) := by
  have HW := hide (hw.alloc (.cells #[.int .i64 who, .int .i64 2, .int .i64 n, .int .u64 v, .string t] 28))
  clear hw
  have HF3 := hide f3
  clear f3
  go_enter Try.func6, Try.ntmps6
  go_wp2_with fail
  refine (wFixed b r bs v n _ (unhide HW) f1 f2 (unhide HF3) (by omega)).mono ?_
  rintro e w2 ⟨rfl, r2, hp⟩
  have H2 := hide hp
  clear hp
  go_wp2
  go_ret
  refine ⟨rfl, r2, ?_⟩
  have hp := (unhide H2).alloc'
  exact hp
set_option maxRecDepth 100000 in
set_option maxHeartbeats 1000000 in
theorem put3 (who n : Int) (v : Nat) (t : ByteArray) (hv : v < 18446744073709551616) (b r : Nat) (bs : List UInt8) (w : World) (hw : Wr w b r bs) (hl : bs.length + t.size + 10 ≤ 140737488355328) :
    Calls Try.prog 6 #[.pointer (some ⟨b, 0, none⟩), .agg #[.int .i64 who, .int .i64 3, .int .i64 n, .int .u64 v, .string t]] w fun e w' => e = .returned (.int .i64 0) ∧ ∃ r', Put w w' b r r' (bs ++ uintB 9 v) := by
  have HW := hide (hw.alloc (.cells #[.int .i64 who, .int .i64 3, .int .i64 n, .int .u64 v, .string t] 28))
  clear hw
  go_enter Try.func6, Try.ntmps6
  go_wp2_with fail
  refine (wUintI b r bs _ _ (unhide HW) (by omega) (by omega) (by omega)).mono ?_
  rintro e w2 ⟨rfl, r2, hp⟩
  have H2 := hide hp
  clear hp
  go_wp2
  go_ret
  refine ⟨rfl, r2, ?_⟩
  have hp := (unhide H2).alloc'
  rw [Int.toNat_natCast] at hp
  exact hp
set_option maxRecDepth 100000 in
set_option maxHeartbeats 1000000 in
theorem put4 (who n : Int) (v : Nat) (t : ByteArray) (_hv : v < 18446744073709551616) (b r : Nat) (bs : List UInt8) (w : World) (hw : Wr w b r bs) (hl : bs.length + t.size + 10 ≤ 140737488355328) :
    Calls Try.prog 6 #[.pointer (some ⟨b, 0, none⟩), .agg #[.int .i64 who, .int .i64 4, .int .i64 n, .int .u64 v, .string t]] w fun e w' => e = .returned (.int .i64 0) ∧ ∃ r', Put w w' b r r' (bs ++ uintB 9 (zig (wrap64 v))) := by
  have HW := hide (hw.alloc (.cells #[.int .i64 who, .int .i64 4, .int .i64 n, .int .u64 v, .string t] 28))
  clear hw
  go_enter Try.func6, Try.ntmps6
  go_wp2_with fail
  refine (wInt b r bs _ _ (unhide HW) (i64_rng _).1 (i64_rng _).2 (by omega)).mono ?_
  rintro e w2 ⟨rfl, r2, hp⟩
  have H2 := hide hp
  clear hp
  go_wp2
  go_ret
  refine ⟨rfl, r2, ?_⟩
  have hp := (unhide H2).alloc'
  exact hp
set_option maxRecDepth 100000 in
set_option maxHeartbeats 1000000 in
theorem put5 (who n : Int) (v : Nat) (t : ByteArray) (_hv : v < 18446744073709551616) (b r : Nat) (bs : List UInt8) (w : World) (hw : Wr w b r bs) (hl : bs.length + t.size + 10 ≤ 140737488355328) :
    Calls Try.prog 6 #[.pointer (some ⟨b, 0, none⟩), .agg #[.int .i64 who, .int .i64 5, .int .i64 n, .int .u64 v, .string t]] w fun e w' => e = .returned (.int .i64 0) ∧ ∃ r', Put w w' b r r' (bs ++ fixB (fltB v) 8) := by
  have HW := hide (hw.alloc (.cells #[.int .i64 who, .int .i64 5, .int .i64 n, .int .u64 v, .string t] 28))
  clear hw
  go_enter Try.func6, Try.ntmps6
  go_wp2_with fail
  refine (wFloat b r bs v _ (unhide HW) (by omega)).mono ?_
  rintro e w2 ⟨rfl, r2, hp⟩
  have H2 := hide hp
  clear hp
  go_wp2
  go_ret
  refine ⟨rfl, r2, ?_⟩
  have hp := (unhide H2).alloc'
  exact hp
set_option maxRecDepth 100000 in
set_option maxHeartbeats 1000000 in
theorem put6 (who n : Int) (v : Nat) (t : ByteArray) (_hv : v < 18446744073709551616) (b r : Nat) (bs : List UInt8) (w : World) (hw : Wr w b r bs) (hl : bs.length + t.size + 10 ≤ 140737488355328) :
    Calls Try.prog 6 #[.pointer (some ⟨b, 0, none⟩), .agg #[.int .i64 who, .int .i64 6, .int .i64 n, .int .u64 v, .string t]] w fun e w' => e = .returned (.int .i64 0) ∧ ∃ r', Put w w' b r r' (bs ++ (uintB 9 t.size ++ t.data.toList)) := by
  have HW := hide (hw.alloc (.cells #[.int .i64 who, .int .i64 6, .int .i64 n, .int .u64 v, .string t] 28))
  clear hw
  go_enter Try.func6, Try.ntmps6
  go_wp2_with fail
  refine (wText b r bs t _ (unhide HW) (by omega)).mono ?_
  rintro e w2 ⟨rfl, r2, hp⟩
  have H2 := hide hp
  clear hp
  go_wp2
  go_ret
  refine ⟨rfl, r2, ?_⟩
  have hp := (unhide H2).alloc'
  exact hp
set_option maxRecDepth 100000 in
set_option maxHeartbeats 1000000 in
theorem put7 (who n : Int) (v : Nat) (t : ByteArray) (_hv : v < 18446744073709551616) (b r : Nat) (bs : List UInt8) (w : World) (hw : Wr w b r bs) (hl : bs.length + t.size + 10 ≤ 140737488355328) :
    Calls Try.prog 6 #[.pointer (some ⟨b, 0, none⟩), .agg #[.int .i64 who, .int .i64 7, .int .i64 n, .int .u64 v, .string t]] w fun e w' => e = .returned (.int .i64 0) ∧ ∃ r', Put w w' b r r' (bs ++ t.data.toList) := by
  have HW := hide (hw.alloc (.cells #[.int .i64 who, .int .i64 7, .int .i64 n, .int .u64 v, .string t] 28))
  clear hw
  go_enter Try.func6, Try.ntmps6
  go_wp2_with fail
  refine (wRaw b r bs t _ (unhide HW) (by omega)).mono ?_
  rintro e w2 ⟨rfl, r2, hp⟩
  have H2 := hide hp
  clear hp
  go_wp2
  go_ret
  refine ⟨rfl, r2, ?_⟩
  have hp := (unhide H2).alloc'
  exact hp
theorem wFixedNot (a : Nat) (v : Nat) (n : Int) (w : World) (hf : ¬ (1 ≤ n ∧ n ≤ 8 ∧ v < 256 ^ n.toNat)) :
    Calls Try.prog 30 #[.pointer (some ⟨a, 0, none⟩), .int .u64 v, .int .i64 n] w fun e w' => e = .returned (.int .i64 1) ∧ w' = w := by
  by_cases h1 : n < 1 ∨ 8 < n
  · exact wFixedBad a v n w h1
  · exact wFixedBig a v n w (by omega) (by omega) (by
      by_cases h : v < 256 ^ n.toNat
      · exact absurd ⟨by omega, by omega, h⟩ hf
      · omega)
set_option maxRecDepth 100000 in
set_option maxHeartbeats 1000000 in
theorem put2b (who n : Int) (v : Nat) (t : ByteArray) (hf : ¬ (1 ≤ n ∧ n ≤ 8 ∧ v < 256 ^ n.toNat)) (b r : Nat) (bs : List UInt8) (w : World) (hw : Wr w b r bs) :
    Calls Try.prog 6 #[.pointer (some ⟨b, 0, none⟩), .agg #[.int .i64 who, .int .i64 2, .int .i64 n, .int .u64 v, .string t]] w fun e w' => e = .returned (.int .i64 1) ∧ ∃ r', Put w w' b r r' (bs ++ []) := by
  have HW := hide (hw.alloc (.cells #[.int .i64 who, .int .i64 2, .int .i64 n, .int .u64 v, .string t] 28))
  clear hw
  have HF := hide (fun u => wFixedNot b v n u hf)
  clear hf
  go_enter Try.func6, Try.ntmps6
  go_wp2_with fail
  refine (unhide HF _).mono ?_
  rintro e w2 ⟨rfl, rfl⟩
  go_wp2
  go_ret
  refine ⟨rfl, r, ?_⟩
  rw [List.append_nil]
  exact (Put.refl (unhide HW)).alloc'
set_option maxRecDepth 100000 in
set_option maxHeartbeats 1000000 in
theorem put9 (who kind n : Int) (v : Nat) (t : ByteArray) (hk : kind < 0 ∨ 7 < kind) (b r : Nat) (bs : List UInt8) (w : World) (hw : Wr w b r bs) :
    Calls Try.prog 6 #[.pointer (some ⟨b, 0, none⟩), .agg #[.int .i64 who, .int .i64 kind, .int .i64 n, .int .u64 v, .string t]] w fun e w' => e = .returned (.int .i64 0) ∧ ∃ r', Put w w' b r r' (bs ++ []) := by
  have HW := hide (hw.alloc (.cells #[.int .i64 who, .int .i64 kind, .int .i64 n, .int .u64 v, .string t] 28))
  clear hw
  have k0 : (kind == 0) = false := by rw [beq_eq_false_iff_ne]; omega
  have k1 : (kind == 1) = false := by rw [beq_eq_false_iff_ne]; omega
  have k2 : (kind == 2) = false := by rw [beq_eq_false_iff_ne]; omega
  have k3 : (kind == 3) = false := by rw [beq_eq_false_iff_ne]; omega
  have k4 : (kind == 4) = false := by rw [beq_eq_false_iff_ne]; omega
  have k5 : (kind == 5) = false := by rw [beq_eq_false_iff_ne]; omega
  have k6 : (kind == 6) = false := by rw [beq_eq_false_iff_ne]; omega
  have k7 : (kind == 7) = false := by rw [beq_eq_false_iff_ne]; omega
  clear hk
  go_enter Try.func6, Try.ntmps6
  go_wp2
  go_ret
  refine ⟨rfl, r, ?_⟩
  rw [List.append_nil]
  exact (Put.refl (unhide HW)).alloc'
/-- an item's bytes, and what putting it answers -/
def formS (x : It) : List UInt8 × Int :=
  if x.kind = 0 then ([UInt8.ofNat (x.v % 256)], 0)
  else if x.kind = 1 then (fixB (x.v % 65536) 2, 0)
  else if x.kind = 2 then (if 1 ≤ x.n ∧ x.n ≤ 8 ∧ x.v < 256 ^ x.n.toNat then (fixB x.v x.n.toNat, 0) else ([], 1))
  else if x.kind = 3 then (uintB 9 x.v, 0)
  else if x.kind = 4 then (uintB 9 (zig (wrap64 x.v)), 0)
  else if x.kind = 5 then (fixB (fltB x.v) 8, 0)
  else if x.kind = 6 then (uintB 9 x.s.size ++ x.s.data.toList, 0)
  else if x.kind = 7 then (x.s.data.toList, 0)
  else ([], 0)
theorem formS_len (x : It) : (formS x).1.length ≤ x.s.size + 10 := by
  unfold formS
  have h3 := (uintB_length 9 x.v).2
  have h4 := (uintB_length 9 (zig (wrap64 x.v))).2
  have h6 := (uintB_length 9 x.s.size).2
  have hs := size_toList x.s
  by_cases hf : 1 ≤ x.n ∧ x.n ≤ 8 ∧ x.v < 256 ^ x.n.toNat
  · rw [if_pos hf]
    repeat' split
    all_goals try simp only [List.length_append, List.length_singleton, List.length_nil, fixB_length]
    all_goals omega
  · rw [if_neg hf]
    repeat' split
    all_goals try simp only [List.length_append, List.length_singleton, List.length_nil, fixB_length]
    all_goals omega
theorem kind_cases (k : Int) : k = 0 ∨ k = 1 ∨ k = 2 ∨ k = 3 ∨ k = 4 ∨ k = 5 ∨ k = 6 ∨ k = 7 ∨ (k < 0 ∨ 7 < k) := by omega
theorem formS9 (x : It) (h : x.kind < 0 ∨ 7 < x.kind) : formS x = ([], 0) := by
  unfold formS
  rw [if_neg (by omega), if_neg (by omega), if_neg (by omega), if_neg (by omega), if_neg (by omega), if_neg (by omega), if_neg (by omega), if_neg (by omega)]
theorem put_all (x : It) (hx : x.Ok) (b r : Nat) (bs : List UInt8) (w : World) (hw : Wr w b r bs) (hl : bs.length + x.s.size + 10 ≤ 140737488355328) :
    Calls Try.prog 6 #[.pointer (some ⟨b, 0, none⟩), x.vat] w fun e w' => e = .returned (.int .i64 (formS x).2) ∧ ∃ r', Put w w' b r r' (bs ++ (formS x).1) := by
  obtain ⟨who, kind, n, v, t⟩ := x
  have hv := hx.v
  simp only at hv hl
  rcases kind_cases kind with rfl | rfl | rfl | rfl | rfl | rfl | rfl | rfl | h
  · exact put0 who n v t hv b r bs w hw hl
  · exact put1 who n v t hv b r bs w hw hl
  · by_cases hf : 1 ≤ n ∧ n ≤ 8 ∧ v < 256 ^ n.toNat
    · have e : formS ⟨who, 2, n, v, t⟩ = (fixB v n.toNat, 0) := by unfold formS; simp [hf]
      rw [e]; exact put2 who n v t hv hf.1 hf.2.1 hf.2.2 b r bs w hw hl
    · have e : formS ⟨who, 2, n, v, t⟩ = ([], 1) := by unfold formS; simp only [if_neg hf]; rfl
      rw [e]; exact put2b who n v t hf b r bs w hw
  · exact put3 who n v t hv b r bs w hw hl
  · exact put4 who n v t hv b r bs w hw hl
  · exact put5 who n v t hv b r bs w hw hl
  · exact put6 who n v t hv b r bs w hw hl
  · exact put7 who n v t hv b r bs w hw hl
  · rw [formS9 _ h]; exact put9 who kind n v t h b r bs w hw
theorem form_all (x : It) (hx : x.Ok) (w : World) (hl : x.s.size ≤ 1048576) :
    Calls Try.prog 24 #[x.vat] w fun e w' => e = .returned (.tuple #[.string ⟨(formS x).1.toArray⟩, .int .i64 (formS x).2]) ∧ Below w.heap.size w w' := by
  obtain ⟨who, kind, n, v, t⟩ := x
  have hv := hx.v
  simp only at hv hl
  rcases kind_cases kind with rfl | rfl | rfl | rfl | rfl | rfl | rfl | rfl | h
  · exact form0 who n v t w hv
  · exact form1 who n v t w hv
  · by_cases hf : 1 ≤ n ∧ n ≤ 8 ∧ v < 256 ^ n.toNat
    · have e : formS ⟨who, 2, n, v, t⟩ = (fixB v n.toNat, 0) := by unfold formS; simp [hf]
      rw [e]; exact form2 who n v t w hv hf.1 hf.2.1 hf.2.2
    · have e : formS ⟨who, 2, n, v, t⟩ = ([], 1) := by unfold formS; simp only [if_neg hf]; rfl
      rw [e]; exact form2b who n v t w hv hf
  · exact form3 who n v t w hv
  · exact form4 who n v t w hv
  · exact form5 who n v t w hv
  · exact form6 who n v t w hv hl
  · exact form7 who n v t w hv
  · rw [formS9 _ h]; exact form9 who kind n v t w hv h
end Go.Proofs.Ytpjepndeppckdaa
