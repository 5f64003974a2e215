/- The journal: is there such a one? -/
import Derived.Test.YtfdfbjijomepgaaDoorDj
namespace Go.Proofs.YtfdfbjijomepgaaDoor
open Go.RowKit

theorem jRefusedNil (f c : Int) (u : World) : Calls Tryd.prog 28 #[.nilIface, .int .i64 f, .int .i64 c] u fun e u' => e = .returned (.int .i64 2) ∧ u' = u := by
  go_enter Tryd.func28, Tryd.ntmps28
  go_wp2
  go_ret
  exact ⟨rfl, rfl⟩
/-- may there be a journal of c pages from f on, of P pages? -/
def refJ (f c : Int) (P : Nat) : Int := if f < 0 ∨ c < 1 ∨ (P : Int) < c ∨ (P : Int) - c < f then 1 else 0
section
variable {B : Nat} {u : World} {Dd : Nat} {F : List Nat} {d : D.Dk}
set_option maxRecDepth 100000 in
set_option maxHeartbeats 2000000 in
theorem jRefused (h : D.Dsk B u Dd F d) (f c : Int) : Calls Tryd.prog 28 #[.iface 50 (.pointer (some ⟨Dd, 0, none⟩)), .int .i64 f, .int .i64 c] u fun e u' => e = .returned (.int .i64 (refJ f c d.lies.length)) ∧ u' = u := by
  have HP := D.hide (D.kPagesD h)
  have hP : d.lies.length ≤ 4096 := h.ok.max
  generalize d.lies.length = P at *
  have hPi : (P : Int) ≤ 4096 := by omega
  clear h
  by_cases h1 : f < 0
  · rw [refJ, if_pos (.inl h1)]
    go_enter Tryd.func28, Tryd.ntmps28
    go_wp2_with fail
    refine (D.unhide HP).mono ?_
    rintro e w1 ⟨rfl, hw⟩
    obtain rfl := hw.symm
    clear hw
    go_wp2
    go_ret
    exact ⟨rfl, rfl⟩
  by_cases h2 : c < 1
  · rw [refJ, if_pos (.inr (.inl h2))]
    go_enter Tryd.func28, Tryd.ntmps28
    go_wp2_with fail
    refine (D.unhide HP).mono ?_
    rintro e w1 ⟨rfl, hw⟩
    obtain rfl := hw.symm
    clear hw
    go_wp2
    go_ret
    exact ⟨rfl, rfl⟩
  by_cases h3 : (P : Int) < c
  · rw [refJ, if_pos (.inr (.inr (.inl h3)))]
    go_enter Tryd.func28, Tryd.ntmps28
    go_wp2_with fail
    refine (D.unhide HP).mono ?_
    rintro e w1 ⟨rfl, hw⟩
    obtain rfl := hw.symm
    clear hw
    go_wp2
    go_ret
    exact ⟨rfl, rfl⟩
  have hw : wrap64 ((P : Int) - c) = (P : Int) - c := by go_unwrap
  by_cases h4 : (P : Int) - c < f
  · rw [refJ, if_pos (.inr (.inr (.inr h4)))]
    go_enter Tryd.func28, Tryd.ntmps28
    go_wp2_with fail
    refine (D.unhide HP).mono ?_
    rintro e w1 ⟨rfl, hw⟩
    obtain rfl := hw.symm
    clear hw
    go_wp2
    go_ret
    exact ⟨rfl, rfl⟩
  · rw [refJ, if_neg (fun h => h.elim h1 (fun h => h.elim h2 (fun h => h.elim h3 h4)))]
    go_enter Tryd.func28, Tryd.ntmps28
    go_wp2_with fail
    refine (D.unhide HP).mono ?_
    rintro e w1 ⟨rfl, hw⟩
    obtain rfl := hw.symm
    clear hw
    go_wp2
    go_ret
    exact ⟨rfl, rfl⟩
end
end Go.Proofs.YtfdfbjijomepgaaDoor
