/- The matrices by which the document joins sums. -/
import Derived.Test.YtpjepndeppckdaaDoorCrcJ
namespace Go.Proofs.YtpjepndeppckdaaDoor
open Go.RowKit Crc

/-- what becomes of the lowest n bits of a register -/
def mp (M : Nat → Nat) : Nat → Nat → Nat
  | 0, _ => 0
  | n + 1, c => mp M n c ^^^ (if c / 2 ^ n % 2 = 1 then M n else 0)
theorem mp_lt (M : Nat → Nat) (hM : ∀ i, i < 32 → M i < 4294967296) (n c : Nat) (hn : n ≤ 32) : mp M n c < 4294967296 := by
  induction n with
  | zero => exact (by decide : 0 < 4294967296)
  | succ n ih =>
    rw [mp]
    refine Nat.xor_lt_two_pow (n := 32) (ih (by omega)) ?_
    split
    · exact hM n (by omega)
    · decide
theorem mp_lin (f : Nat → Nat) (h0 : f 0 = 0) (hx : ∀ a b, f (a ^^^ b) = f a ^^^ f b) (M : Nat → Nat) (n c : Nat) (hM : ∀ i, i < n → M i = f (2 ^ i)) : mp M n c = f (c % 2 ^ n) := by
  induction n with
  | zero => rw [mp, Nat.pow_zero, Nat.mod_one, h0]
  | succ n ih =>
    rw [mp, ih (fun i hi => hM i (by omega)), hM n (by omega)]
    have e := split_low n (c % 2 ^ (n + 1))
    rw [Nat.mod_mod_of_dvd _ (Nat.pow_dvd_pow 2 (by omega))] at e
    rw [e, hx, Nat.xor_comm]
    congr 1
    rw [Nat.pow_succ, Nat.mod_mul_right_div_self]
    rcases Nat.mod_two_eq_zero_or_one (c / 2 ^ n) with h | h <;> simp [h, h0]
/-- thirty-two registers as cells -/
def Cs (M : Nat → Nat) : Array Value := ((List.range 32).map fun i => Value.int .u32 (M i)).toArray
theorem Cs_size (M : Nat → Nat) : (Cs M).size = 32 := by simp [Cs]
theorem Cs_get (M : Nat → Nat) (i : Nat) (h : i < 32) : (Cs M)[i]? = some (.int .u32 (M i)) := by simp [Cs, h]
theorem cs_cell (w : World) (cs : Array Value) (t : TypeId) (M : Nat → Nat) (h : ∀ i, i < 32 → cs[i]? = some (.int .u32 (M i))) (i : Nat) (hi : i < 32) : (w.alloc (.cells cs t)).cell? ⟨w.heap.size, i, none⟩ = some (.int .u32 (M i)) := by
  rw [World.cell?_alloc_new]
  exact h i hi
theorem cbit (c k : Nat) : ((c : Int) / 2 ^ k).tmod 2 = ((c / 2 ^ k % 2 : Nat) : Int) := by
  have e : ((c : Int) / 2 ^ k) = ((c / 2 ^ k : Nat) : Int) := by simp
  rw [e]
  generalize c / 2 ^ k = q
  rw [Int.tmod_eq_emod_of_nonneg (by omega)]; omega
set_option maxHeartbeats 400000 in
theorem mPut (M : Nat → Nat) (cs : Array Value) (c : Nat) (w : World) (hcs : ∀ i, i < 32 → cs[i]? = some (.int .u32 (M i))) (hM : ∀ i, i < 32 → M i < 4294967296) :
    Calls Tryd.prog 35 #[.agg cs, .int .u32 c] w fun e w' => e = .returned (.int .u32 (mp M 32 c : Nat)) ∧ w' = w.alloc (.cells cs 61) := by
  have hcell := cs_cell w cs 61 M hcs
  have HC := hide hcell
  have HM := hide hM
  clear hcell hcs hM
  go_enter Tryd.func35, Tryd.ntmps35
  go_wp2
  go_loop [5, 6] (fun v i => ∃ k : Nat, k ≤ 32 ∧ i = .int .i64 k ∧ v = .int .u32 (mp M k c : Nat)) (fun _ i => 32 - (intOf i).toNat)
  case atStart => exact ⟨0, Nat.zero_le _, rfl, rfl⟩
  case round =>
    obtain ⟨k, hk, rfl, rfl⟩ := hrel
    have hl := mp_lt M (unhide HM) k c hk
    by_cases hlt : k < 32
    · have hM := unhide HM k hlt
      have hcl := unhide HC k hlt
      by_cases h2 : c / 2 ^ k % 2 = 1
      · have hb : (((c : Int) / 2 ^ k).tmod 2 == 1) = true := by rw [cbit, h2]; rfl
        have hs : Hid (mp M (k + 1) c = mp M k c ^^^ M k) := by show mp M (k + 1) c = _; rw [mp, if_pos h2]
        have hx := x32 (mp M k c) (M k) hl hM
        clear h2 HC HM
        go_wp2
        go_round
        case rel => exact ⟨k + 1, by omega, by go_num, by rw [unhide hs]⟩
        case measure => simp [intOf]; omega
      · have hb : (((c : Int) / 2 ^ k).tmod 2 == 1) = false := by rw [cbit, beq_eq_false_iff_ne]; omega
        have hs : Hid (mp M (k + 1) c = mp M k c) := by show mp M (k + 1) c = _; rw [mp, if_neg h2, Nat.xor_zero]
        clear h2 HC HM hcl
        go_wp2
        go_round
        case rel => exact ⟨k + 1, by omega, by go_num, by rw [unhide hs]⟩
        case measure => simp [intOf]; omega
    · have hkk : k = 32 := by omega
      subst hkk
      go_wp2
      go_ret
      exact ⟨rfl, rfl⟩

end Go.Proofs.YtpjepndeppckdaaDoor
