/- The document's set: whether two are the same; the set whose row is none. -/
import Derived.Test.YtloealcaagfehaaDoorRc
import Derived.Test.YtloealcaagfehaaDoorRt
import Derived.Test.YtloealcaagfehaaDoorRe
namespace Go.Proofs.YtloealcaagfehaaDoor
open Go.RowKit

theorem ext_bits {S T n : Nat} (hS : S < 2 ^ n) (hT : T < 2 ^ n) (h : ∀ i, i < n → S.testBit i = T.testBit i) : S = T := Nat.eq_of_testBit_eq fun j => by
  by_cases hj : j < n
  · exact h j hj
  · have e : 2 ^ n ≤ 2 ^ j := Nat.pow_le_pow_right (by decide) (by omega)
    rw [Nat.testBit_lt_two_pow (Nat.lt_of_lt_of_le hS e), Nat.testBit_lt_two_pow (Nat.lt_of_lt_of_le hT e)]
theorem rSame {p q p' q' n S T : Nat} {w : World} (h : Rm w p q n S) (h' : Rm w p' q' n T) : Calls Tryd.prog 65 #[.pointer (some ⟨p, 0, none⟩), .pointer (some ⟨p', 0, none⟩)] w fun e w' => e = .returned (.bool (decide (S = T))) ∧ ∃ k, w' = w.drewN k := by
  have hle := h.le
  have HE : Hid ((∀ i, i < n → S.testBit i = T.testBit i) → S = T) := ext_bits h.lt h'.lt
  have HR := hide (fun c => h.drewN c)
  have HR' := hide (fun c => h'.drewN c)
  obtain ⟨ca, h1⟩ := h.c0
  obtain ⟨cb, h2⟩ := h'.c0
  clear h h'
  go_enter Tryd.func65, Tryd.ntmps65
  go_wp2
  go_quiet (fail)
  go_wp2
  go_loopw [5] (fun i wr => ∃ k : Nat, k ≤ n ∧ i = .int .i64 k ∧ Hid (∃ c, wr = w.drewN c) ∧ Hid (∀ j, j < k → S.testBit j = T.testBit j)) (fun i _ => n - (intOf i).toNat)
  case atStart => exact ⟨0, Nat.zero_le _, rfl, hide ⟨_, rfl⟩, hide (fun j hj => absurd hj (Nat.not_lt_zero _))⟩
  case round =>
    obtain ⟨k, hk, rfl, HC, HI⟩ := hrel
    have hh : wr.cell? ⟨p, 0, none⟩ = some (.slice (some ⟨q, 0, none⟩) n ca) ∧ wr.cell? ⟨p', 0, none⟩ = some (.slice (some ⟨q', 0, none⟩) n cb) := by
      obtain ⟨c, e⟩ := unhide HC
      rw [e]; exact ⟨h1, h2⟩
    obtain ⟨g1, g2⟩ := hh
    by_cases hlt : k < n
    · have hki : (k : Int) < (n : Int) := by omega
      have hh : wr.cell? ⟨q, k, none⟩ = some (.bool (S.testBit k)) ∧ wr.cell? ⟨q', k, none⟩ = some (.bool (T.testBit k)) := by
        obtain ⟨c, e⟩ := unhide HC
        rw [e]; exact ⟨(unhide HR c).b k hlt, (unhide HR' c).b k hlt⟩
      obtain ⟨g3, g4⟩ := hh
      by_cases he : S.testBit k = T.testBit k
      · have HN : Hid (∀ j, j < k + 1 → S.testBit j = T.testBit j) := fun j hj => by
          by_cases e : j = k
          · rw [e]; exact he
          · exact unhide HI j (by omega)
        rw [he] at g3
        clear HI he
        generalize T.testBit k = b at *
        cases b
        all_goals
          go_wp2
          go_quiet (fail)
          go_wp2
          go_roundw
          case rel => exact ⟨k + 1, by omega, by go_num, hide (more (unhide HC) _), hide (unhide HN)⟩
          case measure => simp [intOf]; omega
      · have HX : Hid (decide (S = T) = false) := decide_eq_false (fun e => he (by rw [e]))
        clear HI
        generalize S.testBit k = a at *
        generalize T.testBit k = b at *
        cases a <;> cases b
        · exact absurd rfl he
        rotate_right
        · exact absurd rfl he
        all_goals
          go_wp2
          go_quiet (fail)
          go_wp2
          go_ret
          rw [unhide HX]
          exact ⟨rfl, more (unhide HC) _⟩
    · have hkk : k = n := by omega
      subst hkk
      have HX : Hid (decide (S = T) = true) := decide_eq_true (unhide HE (unhide HI))
      go_wp2
      go_ret
      rw [unhide HX]
      exact ⟨rfl, unhide HC⟩
section
variable {p : Nat} {w : World}
theorem zLen (hc : w.cell? ⟨p, 0, none⟩ = some (.slice none 0 0)) : Calls Tryd.prog 12 #[.pointer (some ⟨p, 0, none⟩)] w fun e w' => e = .returned (.int .i64 0) ∧ w' = w := by
  go_enter Tryd.func12, Tryd.ntmps12
  go_wp2
  go_ret
  exact ⟨rfl, rfl⟩
theorem zTurn (hc : w.cell? ⟨p, 0, none⟩ = some (.slice none 0 0)) (x : Int) (b : Bool) : Calls Tryd.prog 66 #[.pointer (some ⟨p, 0, none⟩), .int .i64 x, .bool b] w fun e w' => e = .returned (.int .i64 1) ∧ w' = w := by
  by_cases h0 : x < 0
  · go_enter Tryd.func66, Tryd.ntmps66
    go_wp2
    go_ret
    exact ⟨rfl, rfl⟩
  · have h1 : 0 ≤ x := by omega
    go_enter Tryd.func66, Tryd.ntmps66
    go_wp2
    go_ret
    exact ⟨rfl, rfl⟩
theorem zHas (hc : w.cell? ⟨p, 0, none⟩ = some (.slice none 0 0)) (x : Int) : Calls Tryd.prog 62 #[.pointer (some ⟨p, 0, none⟩), .int .i64 x] w fun e w' => e = .returned (.bool false) ∧ w' = w := by
  by_cases h0 : x < 0
  · have h1 : ¬ 0 ≤ x := by omega
    go_enter Tryd.func62, Tryd.ntmps62
    go_wp2
    go_ret
    exact ⟨rfl, rfl⟩
  · have h1 : 0 ≤ x := by omega
    go_enter Tryd.func62, Tryd.ntmps62
    go_wp2
    go_ret
    exact ⟨rfl, rfl⟩
theorem zEach (hc : w.cell? ⟨p, 0, none⟩ = some (.slice none 0 0)) : Calls Tryd.prog 15 #[.pointer (some ⟨p, 0, none⟩)] w fun e w' => e = .returned (.slice none 0 0) ∧ w' = w := by
  go_enter Tryd.func15, Tryd.ntmps15
  go_wp2
  go_loopw [3, 4] (fun v i wr => v = .slice none 0 0 ∧ i = .int .i64 0 ∧ wr = w) (fun _ _ _ => 0)
  case atStart => exact ⟨rfl, rfl, rfl⟩
  case round =>
    obtain ⟨rfl, rfl, hu⟩ := hrel
    obtain rfl := hu.symm
    go_wp2_with fail
    refine (zLen hc).mono ?_
    rintro e w1 ⟨rfl, hw⟩
    obtain rfl := hw.symm
    clear hw
    go_wp2
    go_ret
    exact ⟨rfl, rfl⟩
theorem zClear (hc : w.cell? ⟨p, 0, none⟩ = some (.slice none 0 0)) : Calls Tryd.prog 50 #[.pointer (some ⟨p, 0, none⟩)] w fun e w' => e = .returned (.tuple #[]) ∧ w' = w := by
  go_enter Tryd.func50, Tryd.ntmps50
  go_wp2
  go_loopw [2] (fun i wr => i = .int .i64 0 ∧ wr = w) (fun _ _ => 0)
  case atStart => exact ⟨rfl, rfl⟩
  case round =>
    obtain ⟨rfl, hu⟩ := hrel
    obtain rfl := hu.symm
    go_wp2_with fail
    refine (zLen hc).mono ?_
    rintro e w1 ⟨rfl, hw⟩
    obtain rfl := hw.symm
    clear hw
    go_wp2
    go_returns
    exact ⟨rfl, rfl⟩
theorem zTold (hc : w.cell? ⟨p, 0, none⟩ = some (.slice none 0 0)) : Calls Tryd.prog 10 #[.pointer (some ⟨p, 0, none⟩)] w fun e w' => e = .returned (.string ⟨#[]⟩) ∧ w' = w := by
  have hcv : ∀ u : World, (convert 65 9 (.slice none 0 0)).run Tryd.prog u = .ok (.string ⟨#[]⟩) u := fun u => by kernel_rfl
  go_enter Tryd.func10, Tryd.ntmps10
  go_wp2
  go_loopw [3, 4] (fun v i wr => v = .slice none 0 0 ∧ i = .int .i64 0 ∧ wr = w) (fun _ _ _ => 0)
  case atStart => exact ⟨rfl, rfl, rfl⟩
  case round =>
    obtain ⟨rfl, rfl, hu⟩ := hrel
    obtain rfl := hu.symm
    go_wp2
    go_ret
    exact ⟨rfl, rfl⟩
end
end Go.Proofs.YtloealcaagfehaaDoor
