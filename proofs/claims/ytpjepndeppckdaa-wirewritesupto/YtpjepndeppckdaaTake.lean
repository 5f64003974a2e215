/- The law's call that takes: both readers answer one thing. -/
import Derived.Test.YtpjepndeppckdaaMRdT
import Derived.Test.YtpjepndeppckdaaItems
namespace Go.Proofs.Ytpjepndeppckdaa
open Go.RowKit Go.Lib

/-- the same float, bit by bit; every NaN is like every other one -/
theorem same_refl (a : Nat) (w : World) : Calls Try.prog 15 #[.float .f64 a, .float .f64 a] w fun e w' => e = .returned (.bool true) ∧ w' = w := by
  by_cases ha : isNan a = true
  · unfold isNan at ha
    go_enter Try.func15, Try.ntmps15
    go_wp2
    go_ret
    exact ⟨rfl, rfl⟩
  · have ha : isNan a = false := by simpa using ha
    unfold isNan at ha
    go_enter Try.func15, Try.ntmps15
    go_wp2
    go_ret
    exact ⟨rfl, rfl⟩
/-- what both leave -/
def Both (w w' : World) (a b : Nat) (s : ByteArray) (q : Nat × Int) : Prop := Rd w' a s q.1 q.2 ∧ Rd w' b s q.1 q.2 ∧ Upd w w' a b
theorem Upd.left {w w' : World} {a : Nat} (b : Nat) (h : Upd w w' a a) : Upd w w' a b := ⟨h.os, h.tape, h.output, h.size, fun k hk h1 _ => h.block k hk h1 h1⟩
theorem Upd.right {w w' : World} {b : Nat} (a : Nat) (h : Upd w w' b b) : Upd w w' a b := ⟨h.os, h.tape, h.output, h.size, fun k hk _ h2 => h.block k hk h2 h2⟩
theorem Upd.box {w w' : World} {o : Obj} {a b : Nat} (h : Upd (w.alloc o) w' a b) : Upd w w' a b :=
  ⟨h.os, h.tape, h.output, Nat.le_trans (by simp) h.size, fun k hk h1 h2 => (h.block k (by simp; omega) h1 h2).trans (Below.heap_alloc w o k hk)⟩
theorem both_close {w w2 w3 : World} {o : Obj} {a b p' : Nat} {s : ByteArray} {e' : Int} (hab : a ≠ b) (h2 : Rt (w.alloc o) w2 b s p' e') (h3 : Rt w2 w3 a s p' e') : Both w w3 a b s (p', e') :=
  ⟨h3.1, h2.1.upd h3.2 (by omega) (by omega), ((h2.2.right a).trans (h3.2.left b) (.inl rfl)).box⟩
theorem box_c {w w1 : World} {cs : Array Value} {ty : TypeId} {a p : Nat} {s : ByteArray} {e : Int} (ha : a < w.heap.size) (h : Rt (w.alloc (.cells cs ty)) w1 a s p e) (i : Nat) : w1.cell? ⟨w.heap.size, i, none⟩ = cs[i]? := by
  rw [h.2.cell (p := ⟨w.heap.size, i, none⟩) (by simp) (by show w.heap.size ≠ a; omega) (by show w.heap.size ≠ a; omega), World.cell?_alloc_new]
set_option maxRecDepth 100000 in
set_option maxHeartbeats 1000000 in
theorem take0 (who n : Int) (v : Nat) (t : ByteArray) (a b p : Nat) (s : ByteArray) (e : Int) (w : World) (hr : Rd w a s p e) (hm : Rd w b s p e) (hab : a ≠ b) :
    Calls Try.prog 27 #[.pointer (some ⟨a, 0, none⟩), .pointer (some ⟨b, 0, none⟩), .agg #[.int .i64 who, .int .i64 0, .int .i64 n, .int .u64 v, .string t]] w fun y w' => y = .returned (.bool true) ∧ Both w w' a b s (fixS s p e 1).2 := by
  have HM := hide (hm.alloc (.cells #[.int .i64 who, .int .i64 0, .int .i64 n, .int .u64 v, .string t] 28))
  have HR := hide (hr.alloc (.cells #[.int .i64 who, .int .i64 0, .int .i64 n, .int .u64 v, .string t] 28))
  clear hr hm
  have H1 := hide (mByte b s p e _ (unhide HM))
  have H2 := hide (fun u h => rByte a s p e u h)
  generalize fixS s p e 1 = q at *
  obtain ⟨q1, q2, q3⟩ := q
  simp only at H1 H2 ⊢
  go_enter Try.func27, Try.ntmps27
  go_wp2_with fail
  refine (unhide H1).mono ?_
  rintro x w2 ⟨rfl, hp⟩
  have HP := hide hp
  clear hp
  go_wp2_with fail
  refine (unhide H2 _ ((unhide HR).upd (unhide HP).2 hab hab)).mono ?_
  rintro x w3 ⟨rfl, hp⟩
  have HQ := hide hp
  clear hp
  go_wp2
  go_ret
  exact ⟨rfl, both_close hab (unhide HP) (unhide HQ)⟩
set_option maxRecDepth 100000 in
set_option maxHeartbeats 1000000 in
theorem take1 (who n : Int) (v : Nat) (t : ByteArray) (a b p : Nat) (s : ByteArray) (e : Int) (w : World) (hr : Rd w a s p e) (hm : Rd w b s p e) (hab : a ≠ b) :
    Calls Try.prog 27 #[.pointer (some ⟨a, 0, none⟩), .pointer (some ⟨b, 0, none⟩), .agg #[.int .i64 who, .int .i64 1, .int .i64 n, .int .u64 v, .string t]] w fun y w' => y = .returned (.bool true) ∧ Both w w' a b s (fixS s p e 2).2 := by
  have hbl := hm.lt
  have HM := hide (hm.alloc (.cells #[.int .i64 who, .int .i64 1, .int .i64 n, .int .u64 v, .string t] 28))
  have HR := hide (hr.alloc (.cells #[.int .i64 who, .int .i64 1, .int .i64 n, .int .u64 v, .string t] 28))
  clear hr hm
  have H1 := hide (mSmall b s p e _ (unhide HM))
  have H2 := hide (fun u h => rSmall a s p e u h)
  generalize fixS s p e 2 = q at *
  obtain ⟨q1, q2, q3⟩ := q
  simp only at H1 H2 ⊢
  go_enter Try.func27, Try.ntmps27
  go_wp2_with fail
  refine (unhide H1).mono ?_
  rintro x w2 ⟨rfl, hp⟩
  have HP := hide hp
  clear hp
  go_wp2_with fail
  refine (unhide H2 _ ((unhide HR).upd (unhide HP).2 hab hab)).mono ?_
  rintro x w3 ⟨rfl, hp⟩
  have HQ := hide hp
  clear hp
  go_wp2
  go_ret
  exact ⟨rfl, both_close hab (unhide HP) (unhide HQ)⟩
set_option maxRecDepth 100000 in
set_option maxHeartbeats 1000000 in
theorem take2 (who n : Int) (v : Nat) (t : ByteArray) (a b p : Nat) (s : ByteArray) (e : Int) (w : World) (hr : Rd w a s p e) (hm : Rd w b s p e) (hab : a ≠ b) :
    Calls Try.prog 27 #[.pointer (some ⟨a, 0, none⟩), .pointer (some ⟨b, 0, none⟩), .agg #[.int .i64 who, .int .i64 2, .int .i64 n, .int .u64 v, .string t]] w fun y w' => y = .returned (.bool true) ∧ Both w w' a b s (fixS s p e n).2 := by
  have hbl := hm.lt
  have HM := hide (hm.alloc (.cells #[.int .i64 who, .int .i64 2, .int .i64 n, .int .u64 v, .string t] 28))
  have HR := hide (hr.alloc (.cells #[.int .i64 who, .int .i64 2, .int .i64 n, .int .u64 v, .string t] 28))
  clear hr hm
  have H1 := hide (mFixed b s p e n _ (unhide HM))
  have H2 := hide (fun u h => rFixed a s p e n u h)
  generalize fixS s p e n = q at *
  obtain ⟨q1, q2, q3⟩ := q
  simp only at H1 H2 ⊢
  go_enter Try.func27, Try.ntmps27
  go_wp2_with fail
  refine (unhide H1).mono ?_
  rintro x w2 ⟨rfl, hp⟩
  have hc := box_c hbl hp 2
  simp at hc
  have HP := hide hp
  clear hp
  go_wp2_with fail
  refine (unhide H2 _ ((unhide HR).upd (unhide HP).2 hab hab)).mono ?_
  rintro x w3 ⟨rfl, hp⟩
  have HQ := hide hp
  clear hp
  go_wp2
  go_ret
  exact ⟨rfl, both_close hab (unhide HP) (unhide HQ)⟩
set_option maxRecDepth 100000 in
set_option maxHeartbeats 1000000 in
theorem take3 (who n : Int) (v : Nat) (t : ByteArray) (a b p : Nat) (s : ByteArray) (e : Int) (w : World) (hr : Rd w a s p e) (hm : Rd w b s p e) (hab : a ≠ b) :
    Calls Try.prog 27 #[.pointer (some ⟨a, 0, none⟩), .pointer (some ⟨b, 0, none⟩), .agg #[.int .i64 who, .int .i64 3, .int .i64 n, .int .u64 v, .string t]] w fun y w' => y = .returned (.bool true) ∧ Both w w' a b s (uintS s p e v).2 := by
  have hbl := hm.lt
  have HM := hide (hm.alloc (.cells #[.int .i64 who, .int .i64 3, .int .i64 n, .int .u64 v, .string t] 28))
  have HR := hide (hr.alloc (.cells #[.int .i64 who, .int .i64 3, .int .i64 n, .int .u64 v, .string t] 28))
  clear hr hm
  have H1 := hide (mUint b s p e v _ (unhide HM))
  have H2 := hide (fun u h => rUint a s p e v u h)
  generalize uintS s p e v = q at *
  obtain ⟨q1, q2, q3⟩ := q
  simp only at H1 H2 ⊢
  go_enter Try.func27, Try.ntmps27
  go_wp2_with fail
  refine (unhide H1).mono ?_
  rintro x w2 ⟨rfl, hp⟩
  have hc := box_c hbl hp 3
  simp at hc
  have HP := hide hp
  clear hp
  go_wp2_with fail
  refine (unhide H2 _ ((unhide HR).upd (unhide HP).2 hab hab)).mono ?_
  rintro x w3 ⟨rfl, hp⟩
  have HQ := hide hp
  clear hp
  go_wp2
  go_ret
  exact ⟨rfl, both_close hab (unhide HP) (unhide HQ)⟩
set_option maxRecDepth 100000 in
set_option maxHeartbeats 1000000 in
theorem take4 (who n : Int) (v : Nat) (t : ByteArray) (a b p : Nat) (s : ByteArray) (e : Int) (w : World) (hr : Rd w a s p e) (hm : Rd w b s p e) (hab : a ≠ b) :
    Calls Try.prog 27 #[.pointer (some ⟨a, 0, none⟩), .pointer (some ⟨b, 0, none⟩), .agg #[.int .i64 who, .int .i64 4, .int .i64 n, .int .u64 v, .string t]] w fun y w' => y = .returned (.bool true) ∧ Both w w' a b s (uintS s p e 18446744073709551615).2 := by
  have hbl := hm.lt
  have HM := hide (hm.alloc (.cells #[.int .i64 who, .int .i64 4, .int .i64 n, .int .u64 v, .string t] 28))
  have HR := hide (hr.alloc (.cells #[.int .i64 who, .int .i64 4, .int .i64 n, .int .u64 v, .string t] 28))
  clear hr hm
  have H1 := hide (mInt b s p e _ (unhide HM))
  have H2 := hide (fun u h => rInt a s p e u h)
  generalize uintS s p e 18446744073709551615 = q at *
  obtain ⟨q1, q2, q3⟩ := q
  simp only at H1 H2 ⊢
  go_enter Try.func27, Try.ntmps27
  go_wp2_with fail
  refine (unhide H1).mono ?_
  rintro x w2 ⟨rfl, hp⟩
  have HP := hide hp
  clear hp
  go_wp2_with fail
  refine (unhide H2 _ ((unhide HR).upd (unhide HP).2 hab hab)).mono ?_
  rintro x w3 ⟨rfl, hp⟩
  have HQ := hide hp
  clear hp
  go_wp2
  go_ret
  exact ⟨rfl, both_close hab (unhide HP) (unhide HQ)⟩
set_option maxRecDepth 100000 in
set_option maxHeartbeats 1000000 in
theorem take5 (who n : Int) (v : Nat) (t : ByteArray) (a b p : Nat) (s : ByteArray) (e : Int) (w : World) (hr : Rd w a s p e) (hm : Rd w b s p e) (hab : a ≠ b) :
    Calls Try.prog 27 #[.pointer (some ⟨a, 0, none⟩), .pointer (some ⟨b, 0, none⟩), .agg #[.int .i64 who, .int .i64 5, .int .i64 n, .int .u64 v, .string t]] w fun y w' => y = .returned (.bool true) ∧ Both w w' a b s (fltS s p e).2 := by
  have hbl := hm.lt
  have HM := hide (hm.alloc (.cells #[.int .i64 who, .int .i64 5, .int .i64 n, .int .u64 v, .string t] 28))
  have HR := hide (hr.alloc (.cells #[.int .i64 who, .int .i64 5, .int .i64 n, .int .u64 v, .string t] 28))
  clear hr hm
  have H1 := hide (mFloat b s p e _ (unhide HM))
  have H2 := hide (fun u h => rFloat a s p e u h)
  generalize fltS s p e = q at *
  obtain ⟨q1, q2, q3⟩ := q
  simp only at H1 H2 ⊢
  go_enter Try.func27, Try.ntmps27
  go_wp2_with fail
  refine (unhide H1).mono ?_
  rintro x w2 ⟨rfl, hp⟩
  have HP := hide hp
  clear hp
  go_wp2_with fail
  refine (unhide H2 _ ((unhide HR).upd (unhide HP).2 hab hab)).mono ?_
  rintro x w3 ⟨rfl, hp⟩
  have HQ := hide hp
  clear hp
  go_wp2_with fail
  refine (same_refl _ _).mono ?_
  rintro x w4 ⟨rfl, rfl⟩
  go_wp2
  go_ret
  exact ⟨rfl, both_close hab (unhide HP) (unhide HQ)⟩
set_option maxRecDepth 100000 in
set_option maxHeartbeats 1000000 in
theorem take6 (who n : Int) (v : Nat) (t : ByteArray) (a b p : Nat) (s : ByteArray) (e : Int) (w : World) (hr : Rd w a s p e) (hm : Rd w b s p e) (hab : a ≠ b) (hn : n ≤ 9223372036854775807) :
    Calls Try.prog 27 #[.pointer (some ⟨a, 0, none⟩), .pointer (some ⟨b, 0, none⟩), .agg #[.int .i64 who, .int .i64 6, .int .i64 n, .int .u64 v, .string t]] w fun y w' => y = .returned (.bool true) ∧ Both w w' a b s (textS s p e n).2 := by
  have hbl := hm.lt
  have HM := hide (hm.alloc (.cells #[.int .i64 who, .int .i64 6, .int .i64 n, .int .u64 v, .string t] 28))
  have HR := hide (hr.alloc (.cells #[.int .i64 who, .int .i64 6, .int .i64 n, .int .u64 v, .string t] 28))
  clear hr hm
  have H1 := hide (mText b s p e n _ (unhide HM) (by omega))
  have H2 := hide (fun u h => rText a s p e n u h (by omega))
  generalize textS s p e n = q at *
  obtain ⟨q1, q2, q3⟩ := q
  simp only at H1 H2 ⊢
  go_enter Try.func27, Try.ntmps27
  go_wp2_with fail
  refine (unhide H1).mono ?_
  rintro x w2 ⟨rfl, hp⟩
  have hc := box_c hbl hp 2
  simp at hc
  have HP := hide hp
  clear hp
  go_wp2_with fail
  refine (unhide H2 _ ((unhide HR).upd (unhide HP).2 hab hab)).mono ?_
  rintro x w3 ⟨rfl, hp⟩
  have HQ := hide hp
  clear hp
  go_wp2
  go_ret
  exact ⟨rfl, both_close hab (unhide HP) (unhide HQ)⟩
set_option maxRecDepth 100000 in
set_option maxHeartbeats 1000000 in
theorem take7 (who n : Int) (v : Nat) (t : ByteArray) (a b p : Nat) (s : ByteArray) (e : Int) (w : World) (hr : Rd w a s p e) (hm : Rd w b s p e) (hab : a ≠ b) (hn : n ≤ 9223372036854775807) :
    Calls Try.prog 27 #[.pointer (some ⟨a, 0, none⟩), .pointer (some ⟨b, 0, none⟩), .agg #[.int .i64 who, .int .i64 7, .int .i64 n, .int .u64 v, .string t]] w fun y w' => y = .returned (.bool true) ∧ Both w w' a b s (rawS s p e n).2 := by
  have hbl := hm.lt
  have HM := hide (hm.alloc (.cells #[.int .i64 who, .int .i64 7, .int .i64 n, .int .u64 v, .string t] 28))
  have HR := hide (hr.alloc (.cells #[.int .i64 who, .int .i64 7, .int .i64 n, .int .u64 v, .string t] 28))
  clear hr hm
  have H1 := hide (mRaw b s p e n _ (unhide HM) hn)
  have H2 := hide (fun u h => rRaw a s p e n u h)
  generalize rawS s p e n = q at *
  obtain ⟨q1, q2, q3⟩ := q
  simp only at H1 H2 ⊢
  go_enter Try.func27, Try.ntmps27
  go_wp2_with fail
  refine (unhide H1).mono ?_
  rintro x w2 ⟨rfl, hp⟩
  have hc := box_c hbl hp 2
  simp at hc
  have HP := hide hp
  clear hp
  go_wp2_with fail
  refine (unhide H2 _ ((unhide HR).upd (unhide HP).2 hab hab)).mono ?_
  rintro x w3 ⟨rfl, hp⟩
  have HQ := hide hp
  clear hp
  go_wp2
  go_ret
  exact ⟨rfl, both_close hab (unhide HP) (unhide HQ)⟩
set_option maxRecDepth 100000 in
set_option maxHeartbeats 1000000 in
theorem take8 (who n : Int) (v : Nat) (t : ByteArray) (a b p : Nat) (s : ByteArray) (e : Int) (w : World) (hr : Rd w a s p e) (hm : Rd w b s p e) (hab : a ≠ b) :
    Calls Try.prog 27 #[.pointer (some ⟨a, 0, none⟩), .pointer (some ⟨b, 0, none⟩), .agg #[.int .i64 who, .int .i64 8, .int .i64 n, .int .u64 v, .string t]] w fun y w' => y = .returned (.bool true) ∧ Both w w' a b s (p, failE e n) := by
  have hbl := hm.lt
  have HM := hide (hm.alloc (.cells #[.int .i64 who, .int .i64 8, .int .i64 n, .int .u64 v, .string t] 28))
  have HR := hide (hr.alloc (.cells #[.int .i64 who, .int .i64 8, .int .i64 n, .int .u64 v, .string t] 28))
  clear hr hm
  have H1 := hide (mFail b s p e n _ (unhide HM))
  have H2 := hide (fun u h => rFail a s p e n u h)
  generalize failE e n = q3 at *
  go_enter Try.func27, Try.ntmps27
  go_wp2_with fail
  refine (unhide H1).mono ?_
  rintro x w2 ⟨rfl, hp⟩
  have hc := box_c hbl hp 2
  simp at hc
  have HP := hide hp
  clear hp
  go_wp2_with fail
  refine (unhide H2 _ ((unhide HR).upd (unhide HP).2 hab hab)).mono ?_
  rintro x w3 ⟨rfl, hp⟩
  have HQ := hide hp
  clear hp
  go_wp2
  go_ret
  exact ⟨rfl, both_close hab (unhide HP) (unhide HQ)⟩
set_option maxRecDepth 100000 in
set_option maxHeartbeats 1000000 in
theorem take9 (who kind n : Int) (v : Nat) (t : ByteArray) (a b p : Nat) (s : ByteArray) (e : Int) (w : World) (hr : Rd w a s p e) (hm : Rd w b s p e) (hk : kind < 0 ∨ 8 < kind) :
    Calls Try.prog 27 #[.pointer (some ⟨a, 0, none⟩), .pointer (some ⟨b, 0, none⟩), .agg #[.int .i64 who, .int .i64 kind, .int .i64 n, .int .u64 v, .string t]] w fun y w' => y = .returned (.bool true) ∧ Both w w' a b s (p, e) := by
  have HM := hide (hm.alloc (.cells #[.int .i64 who, .int .i64 kind, .int .i64 n, .int .u64 v, .string t] 28))
  have HR := hide (hr.alloc (.cells #[.int .i64 who, .int .i64 kind, .int .i64 n, .int .u64 v, .string t] 28))
  clear hr hm
  have k0 : (kind == 0) = false := by rw [beq_eq_false_iff_ne]; omega
  have k1 : (kind == 1) = false := by rw [beq_eq_false_iff_ne]; omega
  have k2 : (kind == 2) = false := by rw [beq_eq_false_iff_ne]; omega
  have k3 : (kind == 3) = false := by rw [beq_eq_false_iff_ne]; omega
  have k4 : (kind == 4) = false := by rw [beq_eq_false_iff_ne]; omega
  have k5 : (kind == 5) = false := by rw [beq_eq_false_iff_ne]; omega
  have k6 : (kind == 6) = false := by rw [beq_eq_false_iff_ne]; omega
  have k7 : (kind == 7) = false := by rw [beq_eq_false_iff_ne]; omega
  have k8 : (kind == 8) = false := by rw [beq_eq_false_iff_ne]; omega
  clear hk
  go_enter Try.func27, Try.ntmps27
  go_wp2
  go_ret
  exact ⟨rfl, unhide HR, unhide HM, (Upd.refl _ _ _).box⟩
/-- an item as a value -/
def It.vat (x : It) : Value := .agg #[.int .i64 x.who, .int .i64 x.kind, .int .i64 x.n, .int .u64 x.v, .string x.s]
theorem take_all (x : It) (hx : x.Ok) (a b p : Nat) (s : ByteArray) (e : Int) (w : World) (hr : Rd w a s p e) (hm : Rd w b s p e) (hab : a ≠ b) :
    Calls Try.prog 27 #[.pointer (some ⟨a, 0, none⟩), .pointer (some ⟨b, 0, none⟩), x.vat] w fun y w' => y = .returned (.bool true) ∧ ∃ q, Both w w' a b s q := by
  obtain ⟨who, kind, n, v, t⟩ := x
  obtain ⟨-, hkd, hn, hv⟩ := hx
  simp only at hkd hn hv
  unfold It.vat
  simp only
  by_cases hk : kind < 0 ∨ 8 < kind
  · exact (take9 who kind n v t a b p s e w hr hm hk).mono fun _ _ h => ⟨h.1, _, h.2⟩
  · have hc : kind = 0 ∨ kind = 1 ∨ kind = 2 ∨ kind = 3 ∨ kind = 4 ∨ kind = 5 ∨ kind = 6 ∨ kind = 7 ∨ kind = 8 := by omega
    rcases hc with rfl | rfl | rfl | rfl | rfl | rfl | rfl | rfl | rfl
    · exact (take0 who n v t a b p s e w hr hm hab).mono fun _ _ h => ⟨h.1, _, h.2⟩
    · exact (take1 who n v t a b p s e w hr hm hab).mono fun _ _ h => ⟨h.1, _, h.2⟩
    · exact (take2 who n v t a b p s e w hr hm hab).mono fun _ _ h => ⟨h.1, _, h.2⟩
    · exact (take3 who n v t a b p s e w hr hm hab).mono fun _ _ h => ⟨h.1, _, h.2⟩
    · exact (take4 who n v t a b p s e w hr hm hab).mono fun _ _ h => ⟨h.1, _, h.2⟩
    · exact (take5 who n v t a b p s e w hr hm hab).mono fun _ _ h => ⟨h.1, _, h.2⟩
    · exact (take6 who n v t a b p s e w hr hm hab hn.2).mono fun _ _ h => ⟨h.1, _, h.2⟩
    · exact (take7 who n v t a b p s e w hr hm hab hn.2).mono fun _ _ h => ⟨h.1, _, h.2⟩
    · exact (take8 who n v t a b p s e w hr hm hab).mono fun _ _ h => ⟨h.1, _, h.2⟩
end Go.Proofs.Ytpjepndeppckdaa
