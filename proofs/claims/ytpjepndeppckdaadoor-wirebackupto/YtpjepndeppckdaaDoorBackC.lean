/- Taking an item as it was put: texts. -/
import Derived.Test.YtpjepndeppckdaaDoorBack0
namespace Go.Proofs.YtpjepndeppckdaaDoor
open Go.RowKit Go.Lib

set_option maxRecDepth 100000 in
set_option maxHeartbeats 2000000 in
theorem back6 (who n : Int) (v : Nat) (t : ByteArray) (ht : t.size < 9223372036854775808) (a B p : Nat) (s : ByteArray) (e : Int) (w : World) (hr : Rd w a s p e) (hB : B ≤ w.heap.size) (hBa : B ≤ a) :
    Calls Tryd.prog 23 #[.pointer (some ⟨a, 0, none⟩), .agg #[.int .i64 who, .int .i64 6, .int .i64 n, .int .u64 v, .string t]] w fun y w' => y = .returned (.bool (((textS s p e t.size).1.toList == t.toList))) ∧ Bk w w' a B s (textS s p e t.size).2.1 (textS s p e t.size).2.2 := by
  have hlt := hr.lt
  have HR := hide (hr.alloc (.cells #[.int .i64 who, .int .i64 6, .int .i64 n, .int .u64 v, .string t] 35)).drew
  clear hr
  have HC := hide (rText a s p e t.size _ (unhide HR) (by omega))
  have HX : Hid (∀ w1, Rt (w.alloc (.cells #[.int .i64 who, .int .i64 6, .int .i64 n, .int .u64 v, .string t] 35)).drew w1 a s (textS s p e t.size).2.1 (textS s p e t.size).2.2 → ∀ i : Nat, w1.cell? ⟨w.heap.size, i, none⟩ = #[Value.int .i64 who, .int .i64 6, .int .i64 n, .int .u64 v, .string t][i]?) := fun w1 h i => box_cell hlt h i
  generalize textS s p e t.size = q at *
  obtain ⟨q1, q2, q3⟩ := q
  simp only at HC HX ⊢
  go_enter Tryd.func23, Tryd.ntmps23
  go_wp2_with fail
  go_region_with (go_at_call 42; refine (unhide HC).mono ?_; rintro e w1 ⟨rfl, hp⟩; have hc2 := unhide HX w1 hp 2; have hc3 := unhide HX w1 hp 3; have hc4 := unhide HX w1 hp 4; simp at hc2 hc3 hc4; have H1 := hide hp; clear hp)
  all_goals
    go_wp2
    go_ret
    exact ⟨rfl, bk_close hB hBa (unhide H1)⟩
set_option maxRecDepth 100000 in
set_option maxHeartbeats 2000000 in
theorem back7 (who n : Int) (v : Nat) (t : ByteArray) (a B p : Nat) (s : ByteArray) (e : Int) (w : World) (hr : Rd w a s p e) (hB : B ≤ w.heap.size) (hBa : B ≤ a) :
    Calls Tryd.prog 23 #[.pointer (some ⟨a, 0, none⟩), .agg #[.int .i64 who, .int .i64 7, .int .i64 n, .int .u64 v, .string t]] w fun y w' => y = .returned (.bool (((rawS s p e t.size).1.toList == t.toList))) ∧ Bk w w' a B s (rawS s p e t.size).2.1 (rawS s p e t.size).2.2 := by
  have hlt := hr.lt
  have HR := hide (hr.alloc (.cells #[.int .i64 who, .int .i64 7, .int .i64 n, .int .u64 v, .string t] 35)).drew
  clear hr
  have HC := hide (rRaw a s p e t.size _ (unhide HR))
  have HX : Hid (∀ w1, Rt (w.alloc (.cells #[.int .i64 who, .int .i64 7, .int .i64 n, .int .u64 v, .string t] 35)).drew w1 a s (rawS s p e t.size).2.1 (rawS s p e t.size).2.2 → ∀ i : Nat, w1.cell? ⟨w.heap.size, i, none⟩ = #[Value.int .i64 who, .int .i64 7, .int .i64 n, .int .u64 v, .string t][i]?) := fun w1 h i => box_cell hlt h i
  generalize rawS s p e t.size = q at *
  obtain ⟨q1, q2, q3⟩ := q
  simp only at HC HX ⊢
  go_enter Tryd.func23, Tryd.ntmps23
  go_wp2_with fail
  go_region_with (go_at_call 31; refine (unhide HC).mono ?_; rintro e w1 ⟨rfl, hp⟩; have hc2 := unhide HX w1 hp 2; have hc3 := unhide HX w1 hp 3; have hc4 := unhide HX w1 hp 4; simp at hc2 hc3 hc4; have H1 := hide hp; clear hp)
  all_goals
    go_wp2
    go_ret
    exact ⟨rfl, bk_close hB hBa (unhide H1)⟩
end Go.Proofs.YtpjepndeppckdaaDoor
