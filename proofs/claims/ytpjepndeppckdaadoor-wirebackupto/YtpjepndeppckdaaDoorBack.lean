/- Taking an item as it was put: numbers of a fixed width. -/
import Derived.Test.YtpjepndeppckdaaDoorBack0
namespace Go.Proofs.YtpjepndeppckdaaDoor
open Go.RowKit Go.Lib

set_option maxRecDepth 100000 in
set_option maxHeartbeats 2000000 in
theorem back0 (who n : Int) (v : Nat) (t : ByteArray) (a B p : Nat) (s : ByteArray) (e : Int) (w : World) (hr : Rd w a s p e) (hB : B ≤ w.heap.size) (hBa : B ≤ a) :
    Calls Tryd.prog 23 #[.pointer (some ⟨a, 0, none⟩), .agg #[.int .i64 who, .int .i64 0, .int .i64 n, .int .u64 v, .string t]] w fun y w' => y = .returned (.bool (decide ((((fixS s p e 1).1 : Int) % 256) = (v : Int) % 256))) ∧ Bk w w' a B s (fixS s p e 1).2.1 (fixS s p e 1).2.2 := by
  have hlt := hr.lt
  have HR := hide (hr.alloc (.cells #[.int .i64 who, .int .i64 0, .int .i64 n, .int .u64 v, .string t] 35)).drew
  clear hr
  have HC := hide (rByte a s p e _ (unhide HR))
  have HX : Hid (∀ w1, Rt (w.alloc (.cells #[.int .i64 who, .int .i64 0, .int .i64 n, .int .u64 v, .string t] 35)).drew w1 a s (fixS s p e 1).2.1 (fixS s p e 1).2.2 → ∀ i : Nat, w1.cell? ⟨w.heap.size, i, none⟩ = #[Value.int .i64 who, .int .i64 0, .int .i64 n, .int .u64 v, .string t][i]?) := fun w1 h i => box_cell hlt h i
  generalize fixS s p e 1 = q at *
  obtain ⟨q1, q2, q3⟩ := q
  simp only at HC HX ⊢
  go_enter Tryd.func23, Tryd.ntmps23
  go_wp2_with fail
  go_region_with (go_at_call 29; refine (unhide HC).mono ?_; rintro e w1 ⟨rfl, hp⟩; have hc2 := unhide HX w1 hp 2; have hc3 := unhide HX w1 hp 3; have hc4 := unhide HX w1 hp 4; simp at hc2 hc3 hc4; have H1 := hide hp; clear hp)
  all_goals
    go_wp2
    go_ret
    exact ⟨rfl, bk_close hB hBa (unhide H1)⟩
set_option maxRecDepth 100000 in
set_option maxHeartbeats 2000000 in
theorem back1 (who n : Int) (v : Nat) (t : ByteArray) (a B p : Nat) (s : ByteArray) (e : Int) (w : World) (hr : Rd w a s p e) (hB : B ≤ w.heap.size) (hBa : B ≤ a) :
    Calls Tryd.prog 23 #[.pointer (some ⟨a, 0, none⟩), .agg #[.int .i64 who, .int .i64 1, .int .i64 n, .int .u64 v, .string t]] w fun y w' => y = .returned (.bool ((IntKind.i16.wrap ((fixS s p e 2).1 : Nat) == IntKind.i16.wrap v))) ∧ Bk w w' a B s (fixS s p e 2).2.1 (fixS s p e 2).2.2 := by
  have hlt := hr.lt
  have HR := hide (hr.alloc (.cells #[.int .i64 who, .int .i64 1, .int .i64 n, .int .u64 v, .string t] 35)).drew
  clear hr
  have HC := hide (rSmall a s p e _ (unhide HR))
  have HX : Hid (∀ w1, Rt (w.alloc (.cells #[.int .i64 who, .int .i64 1, .int .i64 n, .int .u64 v, .string t] 35)).drew w1 a s (fixS s p e 2).2.1 (fixS s p e 2).2.2 → ∀ i : Nat, w1.cell? ⟨w.heap.size, i, none⟩ = #[Value.int .i64 who, .int .i64 1, .int .i64 n, .int .u64 v, .string t][i]?) := fun w1 h i => box_cell hlt h i
  generalize fixS s p e 2 = q at *
  obtain ⟨q1, q2, q3⟩ := q
  simp only at HC HX ⊢
  go_enter Tryd.func23, Tryd.ntmps23
  go_wp2_with fail
  go_region_with (go_at_call 41; refine (unhide HC).mono ?_; rintro e w1 ⟨rfl, hp⟩; have hc2 := unhide HX w1 hp 2; have hc3 := unhide HX w1 hp 3; have hc4 := unhide HX w1 hp 4; simp at hc2 hc3 hc4; have H1 := hide hp; clear hp)
  all_goals
    go_wp2
    go_ret
    exact ⟨rfl, bk_close hB hBa (unhide H1)⟩
set_option maxRecDepth 100000 in
set_option maxHeartbeats 2000000 in
theorem back2 (who n : Int) (v : Nat) (t : ByteArray) (a B p : Nat) (s : ByteArray) (e : Int) (w : World) (hr : Rd w a s p e) (hB : B ≤ w.heap.size) (hBa : B ≤ a) :
    Calls Tryd.prog 23 #[.pointer (some ⟨a, 0, none⟩), .agg #[.int .i64 who, .int .i64 2, .int .i64 n, .int .u64 v, .string t]] w fun y w' => y = .returned (.bool ((((fixS s p e n).1 : Int) == (v : Int)))) ∧ Bk w w' a B s (fixS s p e n).2.1 (fixS s p e n).2.2 := by
  have hlt := hr.lt
  have HR := hide (hr.alloc (.cells #[.int .i64 who, .int .i64 2, .int .i64 n, .int .u64 v, .string t] 35)).drew
  clear hr
  have HC := hide (rFixed a s p e n _ (unhide HR))
  have HX : Hid (∀ w1, Rt (w.alloc (.cells #[.int .i64 who, .int .i64 2, .int .i64 n, .int .u64 v, .string t] 35)).drew w1 a s (fixS s p e n).2.1 (fixS s p e n).2.2 → ∀ i : Nat, w1.cell? ⟨w.heap.size, i, none⟩ = #[Value.int .i64 who, .int .i64 2, .int .i64 n, .int .u64 v, .string t][i]?) := fun w1 h i => box_cell hlt h i
  generalize fixS s p e n = q at *
  obtain ⟨q1, q2, q3⟩ := q
  simp only at HC HX ⊢
  go_enter Tryd.func23, Tryd.ntmps23
  go_wp2_with fail
  go_region_with (go_at_call 48; refine (unhide HC).mono ?_; rintro e w1 ⟨rfl, hp⟩; have hc2 := unhide HX w1 hp 2; have hc3 := unhide HX w1 hp 3; have hc4 := unhide HX w1 hp 4; simp at hc2 hc3 hc4; have H1 := hide hp; clear hp)
  all_goals
    go_wp2
    go_ret
    exact ⟨rfl, bk_close hB hBa (unhide H1)⟩
end Go.Proofs.YtpjepndeppckdaaDoor
