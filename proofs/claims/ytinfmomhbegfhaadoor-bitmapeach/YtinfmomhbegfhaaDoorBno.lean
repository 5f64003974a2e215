/- BitmapNone: of no set, and the ends. -/
import Derived.Test.YtinfmomhbegfhaaDoorBen
import Derived.Test.YtinfmomhbegfhaaDoorBs
import Derived.Test.YtinfmomhbegfhaaDoorBpc
import Derived.Test.YtinfmomhbegfhaaDoorBt
import Derived.Test.YtinfmomhbegfhaaDoorBh
namespace Go.Proofs.YtinfmomhbegfhaaDoor
open Go.RowKit

theorem Bit.count_pow (x : Nat) : ∀ n, Bit.count (2 ^ x) n = if x < n then 1 else 0
  | 0 => rfl
  | n + 1 => by
    rw [Bit.count, Bit.count_pow x n, Nat.testBit_two_pow]
    by_cases h : x = n
    · subst h; simp
    · by_cases h2 : x < n
      · rw [if_pos h2, if_pos (by omega), decide_eq_false h]; rfl
      · rw [if_neg h2, if_neg (by omega), decide_eq_false h]; rfl
theorem bPutNil (x : Int) (w : World) : Calls Tryd.prog 24 #[.pointer none, .int .i64 x] w fun e w' => e = .returned (.int .i64 2) ∧ w' = w := by
  go_enter Tryd.func24, Tryd.ntmps24
  go_wp2
  go_ret
  exact ⟨rfl, rfl⟩
theorem bTakeNil (x : Int) (w : World) : Calls Tryd.prog 25 #[.pointer none, .int .i64 x] w fun e w' => e = .returned (.int .i64 2) ∧ w' = w := by
  go_enter Tryd.func25, Tryd.ntmps25
  go_wp2
  go_ret
  exact ⟨rfl, rfl⟩
theorem bFillNil (x y : Int) (w : World) : Calls Tryd.prog 32 #[.pointer none, .int .i64 x, .int .i64 y] w fun e w' => e = .returned (.int .i64 2) ∧ w' = w := by
  go_enter Tryd.func32, Tryd.ntmps32
  go_wp2
  go_ret
  exact ⟨rfl, rfl⟩
theorem bOrNone (o : Option Addr) (w : World) : Calls Tryd.prog 33 #[.pointer none, .pointer o] w fun e w' => e = .returned (.int .i64 2) ∧ w' = w := by
  have hmf : ∀ (fn : Fn) (first cap : Array Value) (w : World), (Instr.makeFunc fn first cap).run Tryd.prog w = .ok (.func fn first cap) w := fun _ _ _ _ => rfl
  go_enter Tryd.func33, Tryd.ntmps33
  go_wp2
  go_ret
  exact ⟨rfl, rfl⟩
theorem bAndNone (o : Option Addr) (w : World) : Calls Tryd.prog 34 #[.pointer none, .pointer o] w fun e w' => e = .returned (.int .i64 2) ∧ w' = w := by
  have hmf : ∀ (fn : Fn) (first cap : Array Value) (w : World), (Instr.makeFunc fn first cap).run Tryd.prog w = .ok (.func fn first cap) w := fun _ _ _ _ => rfl
  go_enter Tryd.func34, Tryd.ntmps34
  go_wp2
  go_ret
  exact ⟨rfl, rfl⟩
theorem bMinusNone (o : Option Addr) (w : World) : Calls Tryd.prog 35 #[.pointer none, .pointer o] w fun e w' => e = .returned (.int .i64 2) ∧ w' = w := by
  have hmf : ∀ (fn : Fn) (first cap : Array Value) (w : World), (Instr.makeFunc fn first cap).run Tryd.prog w = .ok (.func fn first cap) w := fun _ _ _ _ => rfl
  go_enter Tryd.func35, Tryd.ntmps35
  go_wp2
  go_ret
  exact ⟨rfl, rfl⟩
theorem bHasNil (x : Int) (w : World) : Calls Tryd.prog 20 #[.pointer none, .int .i64 x] w fun e w' => e = .returned (.bool false) ∧ w' = w := by
  go_enter Tryd.func20, Tryd.ntmps20
  go_wp2
  go_ret
  exact ⟨rfl, rfl⟩
theorem bCountNil (w : World) : Calls Tryd.prog 21 #[.pointer none] w fun e w' => e = .returned (.int .i64 0) ∧ w' = w := by
  go_enter Tryd.func21, Tryd.ntmps21
  go_wp2
  go_ret
  exact ⟨rfl, rfl⟩
theorem bClearNil (w : World) : Calls Tryd.prog 26 #[.pointer none] w fun e w' => e = .returned (.tuple #[]) ∧ w' = w := by
  go_enter Tryd.func26, Tryd.ntmps26
  go_wp2
  go_returns
  exact ⟨rfl, rfl⟩
theorem bCopyNil (w : World) : Calls Tryd.prog 36 #[.pointer none] w fun e w' => e = .returned (.pointer none) ∧ w' = w := by
  go_enter Tryd.func36, Tryd.ntmps36
  go_wp2
  go_ret
  exact ⟨rfl, rfl⟩
theorem bSameNone (o : Option Addr) (w : World) : Calls Tryd.prog 37 #[.pointer none, .pointer o] w fun e w' => e = .returned (.bool false) ∧ ∃ k, w' = w.drewN k := by
  go_enter Tryd.func37, Tryd.ntmps37
  go_wp2
  go_quiet (fail)
  go_wp2
  go_ret
  exact ⟨rfl, _, rfl⟩
theorem bToldNil (w : World) : Calls Tryd.prog 9 #[.pointer none] w fun e w' => e = .returned (.string ⟨#[]⟩) ∧ w' = w := by
  go_enter Tryd.func9, Tryd.ntmps9
  go_wp2
  go_ret
  exact ⟨rfl, rfl⟩
theorem bLenNil (w : World) : Calls Tryd.prog 11 #[.pointer none] w fun e w' => e = .returned (.int .i64 0) ∧ w' = w := by
  go_enter Tryd.func11, Tryd.ntmps11
  go_wp2
  go_ret
  exact ⟨rfl, rfl⟩
theorem bNewBad (x : Int) (hx : x < 0 ∨ 65536 < x) (w : World) : Calls Tryd.prog 28 #[.int .i64 x] w fun e w' => e = .returned (.tuple #[.pointer none, .int .i64 1]) ∧ w' = w := by
  by_cases h0 : x < 0
  · clear hx
    go_enter Tryd.func28, Tryd.ntmps28
    go_wp2
    go_ret2
    exact ⟨rfl, rfl⟩
  · have h1 : 65536 < x := by omega
    clear hx
    go_enter Tryd.func28, Tryd.ntmps28
    go_wp2
    go_ret2
    exact ⟨rfl, rfl⟩
theorem bPutOut {p q n S : Nat} {w : World} (h : Bm w p q n S) (x : Int) (hx : x < 0 ∨ (n : Int) ≤ x) : Calls Tryd.prog 24 #[.pointer (some ⟨p, 0, none⟩), .int .i64 x] w fun e w' => e = .returned (.int .i64 1) ∧ w' = w := by
  have HR := hide (bRefusedOut h x hx)
  clear h hx
  go_enter Tryd.func24, Tryd.ntmps24
  go_wp2_with (go_at_call 52; refine (unhide HR).mono ?_; rintro e w1 ⟨rfl, hw1⟩; obtain rfl := hw1.symm; clear hw1)
  go_ret
  exact ⟨rfl, rfl⟩
end Go.Proofs.YtinfmomhbegfhaaDoor
