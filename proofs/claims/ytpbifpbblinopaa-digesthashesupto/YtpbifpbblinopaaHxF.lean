/- Hexadecimal digits back: what a digit is; Hex by the document. -/
import Derived.Test.YtpbifpbblinopaaHx
import Derived.Lib.Bytealg
namespace Go.Proofs.Ytpbifpbblinopaa
open Go.RowKit

/-- what a digit is -/
def dg (c : Nat) : Int := if 48 ≤ c ∧ c ≤ 57 then (c : Int) - 48 else if 97 ≤ c ∧ c ≤ 102 then (c : Int) - 87 else -1
theorem dg_index (c : Nat) (hc : c < 256) : Lib.indexByte [48, 49, 50, 51, 52, 53, 54, 55, 56, 57, 97, 98, 99, 100, 101, 102] (UInt8.ofNat c) = dg c := by
  have h : ∀ c : Fin 256, Lib.indexByte [48, 49, 50, 51, 52, 53, 54, 55, 56, 57, 97, 98, 99, 100, 101, 102] (UInt8.ofNat c.1) = dg c.1 := by decide +kernel
  exact h ⟨c, hc⟩
theorem dg_lt (c : Nat) : dg c < 16 := by unfold dg; split <;> (try split) <;> omega
theorem dg_ge (c : Nat) : -1 ≤ dg c := by unfold dg; split <;> (try split) <;> omega
theorem dg_dig (m : Nat) (hm : m < 16) : dg (dig m).toNat = m := by
  have h : ∀ m : Fin 16, dg (dig m.1).toNat = m.1 := by decide +kernel
  exact h ⟨m, hm⟩
theorem dig_dg (c : Nat) (hc : c < 256) (h0 : 0 ≤ dg c) : (dig (dg c).toNat).toNat = c := by
  have h : ∀ c : Fin 256, 0 ≤ dg c.1 → (dig (dg c.1).toNat).toNat = c.1 := by decide +kernel
  exact h ⟨c, hc⟩ h0
/-- the digit at a place, as the walk compares it -/
theorem dig_eq (m c : Nat) (hm : m < 16) (hc : c < 256) : ((dig m).toNat = c) ↔ dg c = (m : Int) := by
  constructor
  · intro h; rw [← h, dg_dig m hm]
  · intro h
    have := dig_dg c hc (by omega)
    rw [h] at this
    simpa using this
set_option maxRecDepth 100000 in
set_option maxHeartbeats 1000000 in
theorem mDigit (c : Nat) (w : World) (hc : c < 256) :
    Calls Try.prog 43 #[.int .u8 c] w fun e w' => e = .returned (.int .i64 (dg c)) ∧ w' = w := by
  go_enter Try.func43, Try.ntmps43
  go_wp2
  go_loop [3] (fun i => ∃ k : Nat, k ≤ 16 ∧ i = .int .i64 k ∧ Hid (∀ j, j < k → dg c ≠ (j : Int))) (fun i => 16 - (intOf i).toNat)
  case atStart => exact ⟨0, Nat.zero_le _, rfl, hide fun j hj => absurd hj (Nat.not_lt_zero _)⟩
  case round =>
    obtain ⟨k, hk, rfl, HI⟩ := hrel
    by_cases hlt : k < 16
    · have hd := run_digI k w hlt
      have hki : (k : Int) < 16 := by omega
      have hiff := dig_eq k c hlt hc
      by_cases he : dg c = (k : Int)
      · have hb : (((dig k).toNat : Int) == (c : Int)) = true := by rw [beq_iff_eq]; exact_mod_cast hiff.2 he
        have HE := hide he
        clear hiff he HI
        go_wp2
        go_ret
        exact ⟨by rw [unhide HE]; rfl, rfl⟩
      · have hb : (((dig k).toNat : Int) == (c : Int)) = false := by
          rw [beq_eq_false_iff_ne]
          intro h
          exact he (hiff.1 (by exact_mod_cast h))
        have HE := hide he
        clear hiff he
        go_wp2
        go_round
        case rel =>
          refine ⟨k + 1, by omega, by go_num, hide fun j hj => ?_⟩
          by_cases hjk : j = k
          · rw [hjk]; exact unhide HE
          · exact unhide HI j (by omega)
        case measure => simp [intOf]; omega
    · have hkk : k = 16 := by omega
      subst hkk
      have hE : Hid (dg c = -1) := by
        have h1 := dg_lt c
        have h2 := dg_ge c
        have h3 := unhide HI
        show dg c = -1
        by_cases h : dg c = -1
        · exact h
        · exact absurd (by omega) (h3 (dg c).toNat (by omega))
      clear HI
      go_wp2
      go_ret
      exact ⟨by rw [unhide hE]; rfl, rfl⟩
end Go.Proofs.Ytpbifpbblinopaa
