/- Whether two sets are the same. -/
import Derived.Test.YtinfmomhbegfhaaDoorBm
import Derived.BigQuiet
namespace Go.Proofs.YtinfmomhbegfhaaDoor
open Go.RowKit

theorem more {w wr : World} (h : ∃ c, wr = w.drewN c) (k : Nat) : ∃ c, wr.drewN k = w.drewN c := by
  obtain ⟨c, e⟩ := h
  exact ⟨c + k, by rw [e]; simp⟩
theorem bEqual {p q p' q' n S T : Nat} {w : World} (h : Bm w p q n S) (h' : Bm w p' q' n T) (ca cb : Nat) :
    Calls Tryd.prog 61 #[.slice (some ⟨q, 0, none⟩) ((n + 63) / 64) ca, .slice (some ⟨q', 0, none⟩) ((n + 63) / 64) cb] w fun e w' => e = .returned (.bool (decide (S = T))) ∧ ∃ k, w' = w.drewN k := by
  obtain ⟨m, hm⟩ : ∃ m, m = (n + 63) / 64 := ⟨_, rfl⟩
  have hle := h.le
  have hm2 : m ≤ 1024 := by omega
  have HE : Hid ((∀ i, i < m → Bit.word S i = Bit.word T i) → S = T) := fun hi => Bit.ext_words h.lt h'.lt (by rw [← hm]; exact hi)
  have HW : Hid (∀ k i, i < m → (w.drewN k).cell? ⟨q, i, none⟩ = some (.int .u64 (Bit.word S i : Int)) ∧ (w.drewN k).cell? ⟨q', i, none⟩ = some (.int .u64 (Bit.word T i : Int))) := fun k i hi => ⟨(h.drewN k).w i (by omega), (h'.drewN k).w i (by omega)⟩
  rw [← hm]
  clear h h' hle hm
  go_enter Tryd.func61, Tryd.ntmps61
  go_wp2
  go_loopw [13] (fun i wr => ∃ k : Nat, k ≤ m ∧ i = .int .i64 k ∧ Hid (∃ c, wr = w.drewN c) ∧ Hid (∀ j, j < k → Bit.word S j = Bit.word T j)) (fun i _ => m - (intOf i).toNat)
  case atStart => exact ⟨0, Nat.zero_le _, rfl, hide ⟨0, rfl⟩, hide (fun j hj => absurd hj (Nat.not_lt_zero _))⟩
  case round =>
    obtain ⟨k, hk, rfl, HC, HI⟩ := hrel
    by_cases hlt : k < m
    · have h12 : wr.cell? ⟨q, k, none⟩ = some (.int .u64 (Bit.word S k : Int)) ∧ wr.cell? ⟨q', k, none⟩ = some (.int .u64 (Bit.word T k : Int)) := by
        obtain ⟨c, e⟩ := unhide HC
        rw [e]; exact unhide HW c k hlt
      obtain ⟨h1, h2⟩ := h12
      have hki : (k : Int) < (m : Int) := by omega
      by_cases he : Bit.word S k = Bit.word T k
      · have HN : Hid (∀ j, j < k + 1 → Bit.word S j = Bit.word T j) := fun j hj => by
          by_cases e : j = k
          · rw [e]; exact he
          · exact unhide HI j (by omega)
        rw [he] at h1
        clear HI
        go_wp2
        go_quiet (fail)
        go_wp2
        go_roundw
        case rel => exact ⟨k + 1, by omega, by go_num, hide (more (unhide HC) _), hide (unhide HN)⟩
        case measure => simp [intOf]; omega
      · have HX : Hid (decide (S = T) = false) := decide_eq_false (fun e => he (by rw [e]))
        have hne : ¬ (Bit.word S k : Int) = (Bit.word T k : Int) := by omega
        clear HI he
        go_wp2
        go_quiet (fail)
        go_wp2
        go_ret
        rw [unhide HX]
        exact ⟨rfl, more (unhide HC) _⟩
    · have hkk : k = m := by omega
      subst hkk
      have HX : Hid (decide (S = T) = true) := decide_eq_true (unhide HE (unhide HI))
      go_wp2
      go_ret
      rw [unhide HX]
      exact ⟨rfl, unhide HC⟩
theorem bSame {p q p' q' n S T : Nat} {w : World} (h : Bm w p q n S) (h' : Bm w p' q' n T) :
    Calls Tryd.prog 37 #[.pointer (some ⟨p, 0, none⟩), .pointer (some ⟨p', 0, none⟩)] w fun e w' => e = .returned (.bool (decide (S = T))) ∧ ∃ k, w' = w.drewN k := by
  have HE := hide (fun k a b => bEqual (h.drewN k) (h'.drewN k) a b)
  have h0 := h.c0
  obtain ⟨ca, h1⟩ := h.c1
  have h2 := h'.c0
  obtain ⟨cb, h3⟩ := h'.c1
  obtain ⟨m, hm⟩ : ∃ m, m = (n + 63) / 64 := ⟨_, rfl⟩
  rw [← hm] at h1 h3 HE
  clear h h' hm
  go_enter Tryd.func37, Tryd.ntmps37
  go_wp2
  go_quiet ((go_at_call 61; exact Calls.quiet_of (unhide HE _ _ _)))
  go_wp2
  go_ret
  exact ⟨rfl, _, rfl⟩
theorem bSameNil (p : Nat) (w : World) :
    Calls Tryd.prog 37 #[.pointer (some ⟨p, 0, none⟩), .pointer none] w fun e w' => e = .returned (.bool false) ∧ ∃ k, w' = w.drewN k := by
  go_enter Tryd.func37, Tryd.ntmps37
  go_wp2
  go_quiet (fail)
  go_wp2
  go_ret
  exact ⟨rfl, _, rfl⟩
end Go.Proofs.YtinfmomhbegfhaaDoor
