/- Rows of numbers: whether one is in, whether two are the same. -/
import Derived.Test.YtinfmomhbegfhaaDoorBe
import Derived.Test.YtinfmomhbegfhaaDoorBo
import Derived.BigQuiet
namespace Go.Proofs.YtinfmomhbegfhaaDoor
open Go.RowKit

theorem lies_at {u : World} {ao : Option Addr} {xs : List Int} (h : LiesI u ao xs) (k : Nat) (hk : k < xs.length) : ∃ g o, ao = some ⟨g, o, none⟩ ∧ u.cell? ⟨g, o + k, none⟩ = some (.int .i64 xs[k]) := by
  obtain ⟨g, o, h1, _, h3⟩ := h (by omega)
  exact ⟨g, o, h1, h3 k hk⟩
theorem lies_drewN {u : World} {ao : Option Addr} {xs : List Int} (h : LiesI u ao xs) (k : Nat) : LiesI (u.drewN k) ao xs := h
/-- an owned row of numbers lies somewhere -/
theorem lies_of_own {u : World} {base : Nat} {v : Value} {ys : List Nat} (h : u.ownsRow base 3 1 v ys.length (ys.map fun y => Value.int .i64 ((y : Nat) : Int))) :
    ∃ ao cap, v = .slice ao (ys.map fun y => ((y : Nat) : Int)).length cap ∧ LiesI u ao (ys.map fun y => ((y : Nat) : Int)) := by
  rcases h.2 with ⟨rfl, h0⟩ | ⟨g, cap, cur, rfl, _, hg, _⟩
  · obtain rfl : ys = [] := List.length_eq_zero_iff.1 h0
    exact ⟨none, 0, rfl, fun h => absurd h (by simp)⟩
  · refine ⟨some ⟨g, 0, none⟩, cap, by rw [List.length_map], fun _ => ⟨g, 0, rfl, (Array.getElem?_eq_some_iff.1 hg).1, fun j hj => ?_⟩⟩
    rw [List.length_map] at hj
    rw [Nat.zero_add, h.cellAt j (by omega), List.getElem?_map, List.getElem?_eq_getElem hj]
    simp
theorem lIs (xs : List Int) (ao : Option Addr) (cap : Nat) (x : Int) (w : World) (hl : xs.length ≤ 9223372036854775807) (hx : LiesI w ao xs) :
    Calls Tryd.prog 30 #[.slice ao xs.length cap, .int .i64 x] w fun e w' => e = .returned (.bool (decide (x ∈ xs))) ∧ w' = w := by
  obtain ⟨L, hL⟩ : ∃ L, L = xs.length := ⟨_, rfl⟩
  have HX := hide hx
  have HL := hide hL
  have hli : (L : Int) ≤ 9223372036854775807 := by omega
  rw [← hL]
  clear hx hL hl
  go_enter Tryd.func30, Tryd.ntmps30
  go_wp2
  go_loopw [5] (fun i wr => ∃ k : Nat, k ≤ L ∧ i = .int .i64 k ∧ wr = w ∧ Hid (∀ j (hj : j < xs.length), j < k → xs[j] ≠ x)) (fun i _ => L - (intOf i).toNat)
  case atStart => exact ⟨0, Nat.zero_le _, rfl, rfl, hide (fun j _ h => absurd h (Nat.not_lt_zero _))⟩
  case round =>
    obtain ⟨k, hk, rfl, rfl, HI⟩ := hrel
    by_cases hlt : k < L
    · have hki : (k : Int) < (L : Int) := by omega
      have hkx : k < xs.length := by rw [← unhide HL]; exact hlt
      obtain ⟨g, o, rfl, hc⟩ := lies_at (unhide HX) k hkx
      by_cases he : xs[k] = x
      · have HD : Hid (decide (x ∈ xs) = true) := decide_eq_true (by rw [← he]; exact List.getElem_mem hkx)
        rw [he] at hc
        clear HI he
        go_wp2
        go_ret
        rw [unhide HD]
        exact ⟨rfl, rfl⟩
      · have HN : Hid (∀ j (hj : j < xs.length), j < k + 1 → xs[j] ≠ x) := fun j hj hjk => by
          by_cases e : j = k
          · subst e; exact he
          · exact unhide HI j hj (by omega)
        have hne : ¬ xs[k] = x := he
        clear HI he
        generalize xs[k] = y at *
        go_wp2
        go_roundw
        case rel => exact ⟨k + 1, by omega, by go_num, trivial, hide (unhide HN)⟩
        case measure => simp [intOf]; omega
    · have hkk : k = L := by omega
      subst hkk
      have HD : Hid (decide (x ∈ xs) = false) := decide_eq_false (fun h => by
        obtain ⟨j, hj, e⟩ := List.mem_iff_getElem.1 h
        exact unhide HI j hj (by rw [unhide HL]; exact hj) e)
      go_wp2
      go_ret
      rw [unhide HD]
      exact ⟨rfl, rfl⟩
theorem lSameI (xs ys : List Int) (ao bo : Option Addr) (ca cb : Nat) (w : World) (hl : xs.length ≤ 9223372036854775807) (hx : LiesI w ao xs) (hy : LiesI w bo ys) :
    Calls Tryd.prog 13 #[.slice ao xs.length ca, .slice bo ys.length cb] w fun e w' => e = .returned (.bool (decide (xs = ys))) ∧ ∃ k, w' = w.drewN k := by
  by_cases hne : xs.length = ys.length
  · obtain ⟨L, hL⟩ : ∃ L, L = xs.length := ⟨_, rfl⟩
    have HX := hide hx
    have HY := hide hy
    have HL := hide hL
    have HL2 : Hid (L = ys.length) := hL.trans hne
    have hli : (L : Int) ≤ 9223372036854775807 := by omega
    rw [← hne, ← hL]
    clear hx hy hL hl hne
    go_enter Tryd.func13, Tryd.ntmps13
    go_wp2
    go_loopw [5] (fun i wr => ∃ k : Nat, k ≤ L ∧ i = .int .i64 k ∧ Hid (∃ c, wr = w.drewN c) ∧ Hid (∀ j (hj : j < xs.length) (hj' : j < ys.length), j < k → xs[j] = ys[j])) (fun i _ => L - (intOf i).toNat)
    case atStart => exact ⟨0, Nat.zero_le _, rfl, hide ⟨0, rfl⟩, hide (fun j _ _ h => absurd h (Nat.not_lt_zero _))⟩
    case round =>
      obtain ⟨k, hk, rfl, HC, HI⟩ := hrel
      by_cases hlt : k < L
      · have hki : (k : Int) < (L : Int) := by omega
        have hkx : k < xs.length := by rw [← unhide HL]; exact hlt
        have hky : k < ys.length := by rw [← unhide HL2]; exact hlt
        have hxw : LiesI wr ao xs := by obtain ⟨c, e⟩ := unhide HC; rw [e]; exact lies_drewN (unhide HX) c
        have hyw : LiesI wr bo ys := by obtain ⟨c, e⟩ := unhide HC; rw [e]; exact lies_drewN (unhide HY) c
        obtain ⟨g, o, rfl, hc⟩ := lies_at hxw k hkx
        obtain ⟨g2, o2, rfl, hc2⟩ := lies_at hyw k hky
        clear hxw hyw
        by_cases he : xs[k] = ys[k]
        · have HN : Hid (∀ j (hj : j < xs.length) (hj' : j < ys.length), j < k + 1 → xs[j] = ys[j]) := fun j hj hj' hjk => by
            by_cases e : j = k
            · subst e; exact he
            · exact unhide HI j hj hj' (by omega)
          rw [he] at hc
          clear HI he
          generalize ys[k] = y at *
          go_wp2
          go_quiet (fail)
          go_wp2
          go_roundw
          case rel => exact ⟨k + 1, by omega, by go_num, hide (more (unhide HC) _), hide (unhide HN)⟩
          case measure => simp [intOf]; omega
        · have HD : Hid (decide (xs = ys) = false) := decide_eq_false (fun e => he (by subst e; rfl))
          have hne : ¬ xs[k] = ys[k] := he
          clear HI he
          generalize xs[k] = x at *
          generalize ys[k] = y at *
          go_wp2
          go_quiet (fail)
          go_wp2
          go_ret
          rw [unhide HD]
          exact ⟨rfl, more (unhide HC) _⟩
      · have hkk : k = L := by omega
        subst hkk
        have HD : Hid (decide (xs = ys) = true) := decide_eq_true (List.ext_getElem ((unhide HL).symm.trans (unhide HL2)) (fun j h1 h2 => unhide HI j h1 h2 (by rw [unhide HL]; exact h1)))
        go_wp2
        go_ret
        rw [unhide HD]
        exact ⟨rfl, unhide HC⟩
  · have HD : Hid (decide (xs = ys) = false) := decide_eq_false (fun e => hne (by rw [e]))
    have hni : ¬ (xs.length : Int) = (ys.length : Int) := by omega
    clear hx hy hl hne
    generalize xs.length = lx at *
    generalize ys.length = ly at *
    go_enter Tryd.func13, Tryd.ntmps13
    go_wp2
    go_ret
    rw [unhide HD]
    exact ⟨rfl, 0, rfl⟩
end Go.Proofs.YtinfmomhbegfhaaDoor
