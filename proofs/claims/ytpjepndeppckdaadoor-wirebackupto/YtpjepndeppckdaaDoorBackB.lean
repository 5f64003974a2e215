/- Taking an item as it was put: more kinds. -/
import Derived.Test.YtpjepndeppckdaaDoorBack0
namespace Go.Proofs.YtpjepndeppckdaaDoor
open Go.RowKit Go.Lib

set_option maxRecDepth 100000 in
set_option maxHeartbeats 2000000 in
theorem back3 (who n : Int) (v : Nat) (t : ByteArray) (a B p : Nat) (s : ByteArray) (e : Int) (w : World) (hr : Rd w a s p e) (hB : B ≤ w.heap.size) (hBa : B ≤ a) :
    Calls Tryd.prog 23 #[.pointer (some ⟨a, 0, none⟩), .agg #[.int .i64 who, .int .i64 3, .int .i64 n, .int .u64 v, .string t]] w fun y w' => y = .returned (.bool ((((uintS s p e v).1 : Int) == (v : Int)))) ∧ Bk w w' a B s (uintS s p e v).2.1 (uintS s p e v).2.2 := by
  have hlt := hr.lt
  have HR := hide (hr.alloc (.cells #[.int .i64 who, .int .i64 3, .int .i64 n, .int .u64 v, .string t] 35)).drew
  clear hr
  have HC := hide (rUint a s p e v _ (unhide HR))
  have HX : Hid (∀ w1, Rt (w.alloc (.cells #[.int .i64 who, .int .i64 3, .int .i64 n, .int .u64 v, .string t] 35)).drew w1 a s (uintS s p e v).2.1 (uintS s p e v).2.2 → ∀ i : Nat, w1.cell? ⟨w.heap.size, i, none⟩ = #[Value.int .i64 who, .int .i64 3, .int .i64 n, .int .u64 v, .string t][i]?) := fun w1 h i => box_cell hlt h i
  generalize uintS s p e v = q at *
  obtain ⟨q1, q2, q3⟩ := q
  simp only at HC HX ⊢
  go_enter Tryd.func23, Tryd.ntmps23
  go_wp2_with fail
  go_region_with (go_at_call 40; refine (unhide HC).mono ?_; rintro e w1 ⟨rfl, hp⟩; have hc2 := unhide HX w1 hp 2; have hc3 := unhide HX w1 hp 3; have hc4 := unhide HX w1 hp 4; simp at hc2 hc3 hc4; have H1 := hide hp; clear hp)
  all_goals
    go_wp2
    go_ret
    exact ⟨rfl, bk_close hB hBa (unhide H1)⟩
set_option maxRecDepth 100000 in
set_option maxHeartbeats 2000000 in
theorem back4 (who n : Int) (v : Nat) (t : ByteArray) (a B p : Nat) (s : ByteArray) (e : Int) (w : World) (hr : Rd w a s p e) (hB : B ≤ w.heap.size) (hBa : B ≤ a) :
    Calls Tryd.prog 23 #[.pointer (some ⟨a, 0, none⟩), .agg #[.int .i64 who, .int .i64 4, .int .i64 n, .int .u64 v, .string t]] w fun y w' => y = .returned (.bool ((zag (uintS s p e 18446744073709551615).1 == IntKind.i64.wrap v))) ∧ Bk w w' a B s (uintS s p e 18446744073709551615).2.1 (uintS s p e 18446744073709551615).2.2 := by
  have hlt := hr.lt
  have HR := hide (hr.alloc (.cells #[.int .i64 who, .int .i64 4, .int .i64 n, .int .u64 v, .string t] 35)).drew
  clear hr
  have HC := hide (rInt a s p e _ (unhide HR))
  have HX : Hid (∀ w1, Rt (w.alloc (.cells #[.int .i64 who, .int .i64 4, .int .i64 n, .int .u64 v, .string t] 35)).drew w1 a s (uintS s p e 18446744073709551615).2.1 (uintS s p e 18446744073709551615).2.2 → ∀ i : Nat, w1.cell? ⟨w.heap.size, i, none⟩ = #[Value.int .i64 who, .int .i64 4, .int .i64 n, .int .u64 v, .string t][i]?) := fun w1 h i => box_cell hlt h i
  generalize uintS s p e 18446744073709551615 = q at *
  obtain ⟨q1, q2, q3⟩ := q
  simp only at HC HX ⊢
  go_enter Tryd.func23, Tryd.ntmps23
  go_wp2_with fail
  go_region_with (go_at_call 30; refine (unhide HC).mono ?_; rintro e w1 ⟨rfl, hp⟩; have hc2 := unhide HX w1 hp 2; have hc3 := unhide HX w1 hp 3; have hc4 := unhide HX w1 hp 4; simp at hc2 hc3 hc4; have H1 := hide hp; clear hp)
  all_goals
    go_wp2
    go_ret
    exact ⟨rfl, bk_close hB hBa (unhide H1)⟩
set_option maxRecDepth 100000 in
set_option maxHeartbeats 2000000 in
theorem back5 (who n : Int) (v : Nat) (t : ByteArray) (a B p : Nat) (s : ByteArray) (e : Int) (w : World) (hr : Rd w a s p e) (hB : B ≤ w.heap.size) (hBa : B ≤ a) :
    Calls Tryd.prog 23 #[.pointer (some ⟨a, 0, none⟩), .agg #[.int .i64 who, .int .i64 5, .int .i64 n, .int .u64 v, .string t]] w fun y w' => y = .returned (.bool (sameB (fltS s p e).1 v)) ∧ Bk w w' a B s (fltS s p e).2.1 (fltS s p e).2.2 := by
  have hlt := hr.lt
  have HR := hide (hr.alloc (.cells #[.int .i64 who, .int .i64 5, .int .i64 n, .int .u64 v, .string t] 35)).drew
  clear hr
  have HC := hide (rFloat a s p e _ (unhide HR))
  have HX : Hid (∀ w1, Rt (w.alloc (.cells #[.int .i64 who, .int .i64 5, .int .i64 n, .int .u64 v, .string t] 35)).drew w1 a s (fltS s p e).2.1 (fltS s p e).2.2 → ∀ i : Nat, w1.cell? ⟨w.heap.size, i, none⟩ = #[Value.int .i64 who, .int .i64 5, .int .i64 n, .int .u64 v, .string t][i]?) := fun w1 h i => box_cell hlt h i
  generalize fltS s p e = q at *
  obtain ⟨q1, q2, q3⟩ := q
  simp only at HC HX ⊢
  go_enter Tryd.func23, Tryd.ntmps23
  go_wp2_with fail
  go_region_with (first | (go_at_call 50; refine (unhide HC).mono ?_; rintro e w1 ⟨rfl, hp⟩; have hc2 := unhide HX w1 hp 2; have hc3 := unhide HX w1 hp 3; have hc4 := unhide HX w1 hp 4; simp at hc2 hc3 hc4; have H1 := hide hp; clear hp) | (go_at_call 49; refine (same_walk _ _ _).mono ?_; rintro e w2 ⟨rfl, rfl⟩))
  all_goals
    go_wp2
    go_ret
    exact ⟨rfl, bk_close hB hBa (unhide H1)⟩
end Go.Proofs.YtpjepndeppckdaaDoor
