/- Sketches: Segment; the walk of Items. -/
import Derived.Test.YtopabadnbelegaaQSkn
namespace Go.Proofs.Ytopabadnbelegaa.K
open Go.RowKit Go.Lib
open Go.Proofs.Ytopabadnbelegaa.S (En)
set_option maxHeartbeats 1000000 in
theorem kSegment (x : Nat) (hx : x < 18446744073709551616) (u : World) : Calls Try.prog 16 #[.int .u64 (x : Int)] u fun e u' => e = .returned (.int .i64 ((x / 281474976710656 : Nat) : Int)) ∧ u' = u := by
  obtain ⟨q, hq⟩ : ∃ q, q = x / 281474976710656 := ⟨_, rfl⟩
  have hq1 : (x : Int) / 281474976710656 = (q : Int) := by omega
  have hq2 : wrap64 (q : Int) = (q : Int) := by
    have : q < 65536 := by omega
    exact w1 q (by omega)
  rw [← hq]
  have HW := hide hq2
  clear hq hx hq2
  go_enter Try.func16, Try.ntmps16
  go_wp2
  go_ret
  refine ⟨?_, rfl⟩
  show Ending.returned (Value.int .i64 (wrap64 (q : Int))) = _
  rw [unhide HW]
theorem kSegW (x : Nat) (hx : x < 18446744073709551616) (u : World) : Calls Try.prog 16 #[.int .u64 (x : Int)] u fun e u' => e = .returned (.int .i64 (wrap64 (IntKind.u64.wrap ((x : Int) / 281474976710656)))) ∧ u' = u := by
  have e : IntKind.u64.wrap ((x : Int) / 281474976710656) = ((x / 281474976710656 : Nat) : Int) := by rw [IntKind.wrap_u64]; omega
  rw [e, w1 _ (by omega)]
  exact kSegment x hx u
set_option maxRecDepth 100000 in
set_option maxHeartbeats 2000000 in
theorem items16_walk (y : En) (x : Int) (h0 : 0 ≤ x) (h1 : x < 18446744073709551616) (hy1 : y.1.size ≤ 1048576) (hy2 : y.2.size ≤ 1048576) (u : World) : Calls Try.prog 4 #[.agg #[.string y.1, .string y.2], .int .u64 x] u fun e u' => e = .returned (.bool true) ∧ Below u.heap.size u u' := by
  obtain ⟨z, rfl⟩ : ∃ z : Nat, x = (z : Int) := ⟨x.toNat, by omega⟩
  have HI := hide (fun w => kItem y hy1 hy2 w)
  have HQ := hide (fun w => qItem y hy1 hy2 w)
  have HZ := hide (fun w => kSegW z (by omega) w)
  have hv := itemN_lt y
  have HV := hide (fun w => kSegW (itemN y) (by omega) w)
  obtain ⟨k, s⟩ := y
  have HX := hide (heap_alloc_new u (.cells #[.string k, .string s] 36))
  have HB := hide ((Below.refl u.heap.size u).alloc (Nat.le_refl _) (.cells #[.string k, .string s] 36))
  generalize itemN (k, s) = v at *
  clear hv hy1 hy2 h0 h1
  go_enter Try.func4, Try.ntmps4
  go_wp2_with (first
    | (go_at_call 14; refine (unhide HI _).mono ?_; rintro e W1 ⟨rfl, hb⟩; have HB1 := hide hb; obtain ⟨c0, c1⟩ := S.box2 (S.box_below (unhide HX) hb); clear hb HI)
    | (go_at_call 15; refine (unhide HQ _).mono ?_; rintro e W2 ⟨rfl, hb⟩; have HB2 := hide hb; clear hb HQ)
    | (go_at_call 16; refine (unhide HV _).mono ?_; rintro e wq ⟨rfl, hwq⟩; obtain rfl := hwq.symm; clear HV)
    | (go_at_call 16; refine (unhide HZ _).mono ?_; rintro e wq ⟨rfl, hwq⟩; obtain rfl := hwq.symm; clear HZ)
    | fail)
  go_ret
  exact ⟨rfl, (unhide HB).trans (((unhide HB1).trans ((unhide HB2).mono (unhide HB1).size)).mono (unhide HB).size)⟩
end Go.Proofs.Ytopabadnbelegaa.K
