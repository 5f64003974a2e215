/- Which items may be put, and what is put. -/
import Derived.Test.YtpjepndeppckdaaDoorFwd
import Derived.Test.YtpjepndeppckdaaDoorAgain
namespace Go.Proofs.YtpjepndeppckdaaDoor
open Go.RowKit Go.Lib

theorem Wr.below' {w w' : World} {a r : Nat} {bs : List UInt8} (h : Wr w a r bs) (hb : Below w.heap.size w w') : Wr w' a r bs := h.same hb.size (hb.block a h.1) (hb.block r h.2.1)
theorem Rd.below' {w w' : World} {a : Nat} {s : ByteArray} {p : Nat} {e : Int} (h : Rd w a s p e) (hb : Below w.heap.size w w') : Rd w' a s p e := h.same hb.size (hb.block a h.lt)
/-- may the item be put? -/
def fitB (x : It) : Bool := if x.kind = 2 then decide (1 ≤ x.n ∧ x.n ≤ 8 ∧ x.v < 256 ^ x.n.toNat) else decide (0 ≤ x.kind ∧ x.kind ≤ 7)
/-- an item's bytes -/
def It.form (x : It) : List UInt8 :=
  if x.kind = 0 then [UInt8.ofNat (x.v % 256)]
  else if x.kind = 1 then fixB (x.v % 65536) 2
  else if x.kind = 2 then fixB x.v x.n.toNat
  else if x.kind = 3 then uintB 9 x.v
  else if x.kind = 4 then uintB 9 (zig (wrap64 x.v))
  else if x.kind = 5 then fixB (fltB x.v) 8
  else if x.kind = 6 then uintB 9 x.s.size ++ x.s.data.toList
  else x.s.data.toList
theorem form_len (x : It) (hn : x.n ≤ 8 ∨ x.kind ≠ 2) : x.form.length ≤ x.s.size + 10 := by
  unfold It.form
  have h3 := (uintB_length 9 x.v).2
  have h4 := (uintB_length 9 (zig (wrap64 x.v))).2
  have h6 := (uintB_length 9 x.s.size).2
  have hs := size_toList x.s
  repeat' split
  all_goals try simp only [List.length_append, List.length_singleton, fixB_length]
  all_goals omega
set_option maxRecDepth 100000 in
set_option maxHeartbeats 1000000 in
theorem fits_walk (x : It) (hx : x.Ok) (w : World) : Calls Tryd.prog 18 #[x.val] w fun e w' => e = .returned (.bool (fitB x)) ∧ Below w.heap.size w w' := by
  obtain ⟨who, kind, n, v, t⟩ := x
  obtain ⟨-, hkd, hn, hv⟩ := hx
  simp only at hn hv hkd
  unfold It.val fitB
  simp only
  by_cases k2 : kind = 2
  · subst k2
    rw [if_pos rfl]
    by_cases n1 : 1 ≤ n
    · by_cases n8 : n ≤ 8
      · obtain ⟨m, rfl⟩ := Int.eq_ofNat_of_zero_le (by omega : 0 ≤ n)
        rw [Int.toNat_natCast]
        by_cases e8 : m = 8
        · subst e8
          have hd : decide ((1 : Int) ≤ ((8 : Nat) : Int) ∧ ((8 : Nat) : Int) ≤ 8 ∧ v < 256 ^ 8) = true := by rw [decide_eq_true_eq]; omega
          rw [hd]
          clear hd
          go_enter Tryd.func18, Tryd.ntmps18
          go_wp2
          go_quiet (fail)
          go_wp2
          go_ret
          exact ⟨rfl, belowDrewN ((Below.refl _ _).alloc (Nat.le_refl _) _) _⟩
        · have e8b : ((m : Int) == 8) = false := by rw [beq_eq_false_iff_ne]; omega
          have hd : decide ((1 : Int) ≤ (m : Int) ∧ (m : Int) ≤ 8 ∧ v < 256 ^ m) = decide ((v : Int) < IntKind.u64.wrap (2 ^ (8 * m))) := by
            have hp : IntKind.u64.wrap (2 ^ (8 * m)) = ((256 ^ m : Nat) : Int) := by
              rw [pow8, IntKind.wrap_u64]
              have h1 : 256 ^ m ≤ 72057594037927936 := Nat.pow_le_pow_right (n := 256) (by decide) (show m ≤ 7 by omega)
              generalize 256 ^ m = Q at h1
              omega
            rw [hp, decide_eq_decide]
            generalize 256 ^ m = Q
            omega
          rw [hd]
          clear hd
          go_enter Tryd.func18, Tryd.ntmps18
          go_wp2
          go_quiet (fail)
          go_wp2
          go_ret
          exact ⟨rfl, belowDrewN ((Below.refl _ _).alloc (Nat.le_refl _) _) _⟩
      · have hd : decide ((1 : Int) ≤ n ∧ n ≤ 8 ∧ v < 256 ^ n.toNat) = false := by rw [decide_eq_false_iff_not]; omega
        rw [hd]
        have n8b : decide (n ≤ 8) = false := by rw [decide_eq_false_iff_not]; omega
        clear hd
        go_enter Tryd.func18, Tryd.ntmps18
        go_wp2
        go_quiet (fail)
        go_wp2
        go_ret
        exact ⟨rfl, belowDrewN ((Below.refl _ _).alloc (Nat.le_refl _) _) _⟩
    · have hd : decide ((1 : Int) ≤ n ∧ n ≤ 8 ∧ v < 256 ^ n.toNat) = false := by rw [decide_eq_false_iff_not]; omega
      rw [hd]
      have n1b : decide (1 ≤ n) = false := by rw [decide_eq_false_iff_not]; omega
      clear hd
      go_enter Tryd.func18, Tryd.ntmps18
      go_wp2
      go_quiet (fail)
      go_wp2
      go_ret
      exact ⟨rfl, belowDrewN ((Below.refl _ _).alloc (Nat.le_refl _) _) _⟩
  · rw [if_neg k2]
    have q2 : (kind != 2) = true := by rw [bne_iff_ne]; exact k2
    by_cases h0 : 0 ≤ kind
    · have hd : decide (0 ≤ kind ∧ kind ≤ 7) = decide (kind ≤ 7) := by rw [decide_eq_decide]; omega
      rw [hd]
      clear hd
      go_enter Tryd.func18, Tryd.ntmps18
      go_wp2
      go_ret
      exact ⟨rfl, (Below.refl _ _).alloc (Nat.le_refl _) _⟩
    · have hd : decide (0 ≤ kind ∧ kind ≤ 7) = false := by rw [decide_eq_false_iff_not]; omega
      rw [hd]
      clear hd
      go_enter Tryd.func18, Tryd.ntmps18
      go_wp2
      go_ret
      exact ⟨rfl, (Below.refl _ _).alloc (Nat.le_refl _) _⟩
end Go.Proofs.YtpjepndeppckdaaDoor
