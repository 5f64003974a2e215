/- Vectors: of no writer and no reader; the walk of VectorNames. -/
import Derived.Test.YtajflgonhomkfaaXp
import Derived.Deep.DeepCutAuto
namespace Go.Proofs.Ytajflgonhomkfaa
open Go.RowKit

theorem nStopped (w : World) : Calls Try.prog 59 #[.pointer none] w fun e w' => e = .returned (.bool true) ∧ w' = w := by
  go_enter Try.func59, Try.ntmps59
  go_wp2
  go_ret
  exact ⟨rfl, rfl⟩
theorem nErr (w : World) : Calls Try.prog 34 #[.pointer none] w fun e w' => e = .returned (.int .i64 2) ∧ w' = w := by
  go_enter Try.func34, Try.ntmps34
  go_wp2
  go_ret
  exact ⟨rfl, rfl⟩
theorem nUint (x : Int) (w : World) : Calls Try.prog 63 #[.pointer none, .int .u64 x] w fun e w' => e = .returned (.int .u64 0) ∧ w' = w := by
  go_enter Try.func63, Try.ntmps63
  go_wp2_with (first | (go_at_call 59; refine (nStopped _).mono ?_; rintro e w1 ⟨rfl, rfl⟩) | fail)
  go_ret
  exact ⟨rfl, rfl⟩
theorem nTakeDots (w : World) : Calls Try.prog 47 #[.pointer none] w fun e w' => e = .returned (.slice none 0 0) ∧ w' = w := by
  go_enter Try.func47, Try.ntmps47
  go_wp2_with (first | (go_at_call 63; refine (nUint _ _).mono ?_; rintro e w1 ⟨rfl, rfl⟩) | fail)
  go_loopw [3, 4] (fun v i wr => v = .slice none 0 0 ∧ i = .int .u64 0 ∧ wr = w1) (fun _ _ _ => 0)
  case atStart => exact ⟨rfl, rfl, rfl⟩
  case round =>
    obtain ⟨rfl, rfl, rfl⟩ := hrel
    go_wp2
    go_ret
    exact ⟨rfl, rfl⟩
theorem nTake (w : World) : Calls Try.prog 11 #[.pointer none] w fun e w' => e = .returned (.slice none 0 0) ∧ Below w.heap.size w w' := by
  have HV : Hid (Calls Try.prog 41 #[.slice none 0 0] w fun e w' => e = .returned (.bool true) ∧ Below w.heap.size w w') := by
    have := vValid [] none 0 w ⟨Lies.nil _ _, fun d hd => (by cases hd), Nat.zero_le _⟩
    rw [V.okB_true.2 ⟨V.vec_nil, Nat.zero_le _⟩] at this
    exact this
  go_enter Try.func11, Try.ntmps11
  go_wp2_with (first
    | (go_at_call 47; refine (nTakeDots _).mono ?_; rintro e w1 ⟨rfl, hw1⟩; obtain rfl := hw1.symm; clear hw1)
    | (go_at_call 41; refine (unhide HV).mono ?_; rintro e w2 ⟨rfl, hb2⟩; have HB2 := hide hb2; clear hb2)
    | (go_at_call 34; refine (nErr _).mono ?_; rintro e w3 ⟨rfl, hw3⟩; obtain rfl := hw3.symm; clear hw3)
    | fail)
  go_ret
  exact ⟨rfl, unhide HB2⟩
theorem nPut (v : Value) (w : World) : Calls Try.prog 12 #[.pointer none, v] w fun e w' => e = .returned (.int .i64 2) ∧ w' = w := by
  go_enter Try.func12, Try.ntmps12
  go_wp2
  go_ret
  exact ⟨rfl, rfl⟩
theorem wLen0 (a r : Nat) (w : World) (h : W.Wr w a r []) : Calls Try.prog 14 #[.pointer (some ⟨a, 0, none⟩)] w fun e w' => e = .returned (.int .i64 0) ∧ w' = w := by
  obtain ⟨v, hc, _, _, ao, cap, rfl⟩ := h.cellAt
  have hc : w.cell? ⟨a, 0, none⟩ = some (.slice ao 0 cap) := hc
  go_enter Try.func14, Try.ntmps14
  go_wp2
  go_ret
  exact ⟨rfl, rfl⟩
def wZ : List (Nat × Nat) := [(1, 0)]
theorem notZ : V.okB wZ = false := V.okB_false.2 fun h => by have := (h.pos (1, 0) (List.mem_singleton.2 rfl)).1; simp at this
theorem putZ (w : World) (a r : Nat) (ao : Option Addr) (hw : W.Wr w a r []) (hd : Da w wZ ao 1) : Calls Try.prog 12 #[.pointer (some ⟨a, 0, none⟩), .slice ao 1 1] w fun e w' => e = .returned (.int .i64 100) ∧ W.Wr w' a r [] ∧ Below w.heap.size w w' := by
  have HV : Hid (Calls Try.prog 41 #[.slice ao 1 1] w fun e w' => e = .returned (.bool false) ∧ Below w.heap.size w w') := by
    have := vValid wZ ao 1 w hd.at
    rw [notZ] at this
    exact this
  have HP : Hid (∀ w' : World, Below w.heap.size w w' → W.Wr w' a r [] ∧ Below w.heap.size w w') := fun w' hb => ⟨Wr.below hw hb, hb⟩
  clear hd hw
  go_enter Try.func12, Try.ntmps12
  go_wp2_with (first | (go_at_call 41; refine (unhide HV).mono ?_; rintro e w1 ⟨rfl, hb1⟩; have HB1 := hide hb1; clear hb1) | fail)
  go_ret
  exact ⟨rfl, unhide HP _ (unhide HB1)⟩
set_option maxRecDepth 100000 in
set_option maxHeartbeats 4000000 in
theorem names10_walk (u : World) : Calls Try.prog 3 #[] u fun e u' => e = .returned (.bool true) ∧ Below u.heap.size u u' := by
  have HT := hide (nTake u)
  have HLZ : Hid (∀ (w : World), Da (w.alloc (.cells #[.int .u32 1, .int .u64 0] 29)) wZ (some ⟨w.heap.size, 0, none⟩) 1) := fun w => Da.lit w wZ _ _ 1 rfl rfl (fits_ok (by decide)) (by decide)
  have HAL : Hid (∀ (w : World) (o : Obj), Below w.heap.size w (w.alloc o)) := fun w o => (Below.refl _ _).alloc (Nat.le_refl _) _
  have HNW : Hid (∀ w : World, Calls Try.prog 13 #[] w fun e w' => e = .returned (.pointer (some ⟨w.heap.size, 0, none⟩)) ∧ Wn w w' w.heap.size w.heap.size w.heap.size []) := fun w => (W.wNew w).mono (by rintro e w' ⟨he, rfl⟩; exact ⟨he, Wn.new w 70⟩)
  have HPN : Hid (∀ (v : Value) (w : World), Calls Try.prog 12 #[.pointer none, v] w fun e w' => e = .returned (.int .i64 2) ∧ w' = w) := fun v w => nPut v w
  have HPZ : Hid (∀ (w : World) (a r : Nat) (ao : Option Addr), W.Wr w a r [] → Da w wZ ao 1 → Calls Try.prog 12 #[.pointer (some ⟨a, 0, none⟩), .slice ao 1 1] w fun e w' => e = .returned (.int .i64 100) ∧ W.Wr w' a r [] ∧ Below w.heap.size w w') := fun w a r ao hw hd => putZ w a r ao hw hd
  obtain ⟨N, hN⟩ : ∃ N, N = u.heap.size := ⟨_, rfl⟩
  have HN := hide hN
  rw [← hN] at HT ⊢
  clear hN
  have HUP : Hid (∀ W W' : World, Below N u W → Below W.heap.size W W' → Below N u W') := fun W W' h1 h2 => h1.trans (h2.mono (by rw [unhide HN]; exact h1.size))
  go_enter Try.func3, Try.ntmps3
  go_upto_region 4 with (first
    | (go_at_call 11; refine (unhide HT).mono ?_; rintro e w1 ⟨rfl, hb1⟩; have HB1 := hide hb1; clear hb1)
    | (go_at_call 12; refine (unhide HPN _ _).mono ?_; rintro e w2 ⟨rfl, hw2⟩; have HB2 : Hid (Below N u w2) := (by rw [hw2]; exact unhide HUP _ _ (unhide HB1) (unhide HAL _ _)); clear hw2)
    | (go_at_call 13; refine (unhide HNW _).mono ?_; rintro e w3 ⟨rfl, hw3⟩; have HW3 := hide hw3; have HB3 := hide (unhide HUP _ _ (unhide HB2) hw3.below); clear hw3)
    | fail)
  have HW4 : Hid (W.Wr (w3.alloc (.cells #[.int .u32 1, .int .u64 0] 29)) w2.heap.size w2.heap.size []) := Wr.below (unhide HW3).wr (unhide HAL _ _)
  go_wp2_with (first
    | (go_at_call 12; refine (unhide HPZ _ _ _ _ (unhide HW4) (unhide HLZ w3)).mono ?_; rintro e w5 ⟨rfl, hw5, hb5⟩; have HW5 := hide hw5; have HB5 := hide (unhide HUP _ _ (unhide HUP _ _ (unhide HB3) (unhide HAL _ _)) hb5); have HL5 := hide (wLen0 _ _ _ hw5); clear hw5 hb5)
    | (go_at_call 14; refine (unhide HL5).mono ?_; rintro e w6 ⟨rfl, hw6⟩; obtain rfl := hw6.symm; clear hw6)
    | fail)
  go_ret
  exact ⟨rfl, unhide HB5⟩
end Go.Proofs.Ytajflgonhomkfaa
