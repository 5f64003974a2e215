/- Sets of no runes. -/
import Derived.Test.YtpepgealeanecaaGl
namespace Go.Proofs.Ytpepgealeanecaa
open Go.RowKit Go.Lib
theorem zIns (w : World) : Calls Try.prog 104 #[.slice none 0 0, .int .i64 0, .int .i64 0] w fun e w' => e = .returned (.tuple #[]) ∧ w' = w := by
  go_enter Try.func104, Try.ntmps104
  go_wp2
  go_loopw [6] (fun i wr => i = .int .i64 1 ∧ wr = w) (fun _ _ => 0)
  case atStart => exact ⟨rfl, rfl⟩
  case round =>
    obtain ⟨rfl, rfl⟩ := hrel
    go_wp2
    go_returns
    exact ⟨rfl, rfl⟩
theorem zPdq (m : Int) (w : World) : Calls Try.prog 100 #[.slice none 0 0, .int .i64 0, .int .i64 0, .int .i64 m] w fun e w' => e = .returned (.tuple #[]) ∧ w' = w := by
  go_enter Try.func100, Try.ntmps100
  go_wp2
  go_loopw [1, 2, 3, 8, 9] (fun a b _ _ _ wr => a = .int .i64 0 ∧ b = .int .i64 0 ∧ wr = w) (fun _ _ _ _ _ _ => 0)
  case atStart => exact ⟨rfl, rfl, rfl⟩
  case round =>
    obtain ⟨rfl, rfl, rfl⟩ := hrel
    go_wp2_with (go_at_call 104; refine (zIns _).mono ?_; rintro e w' ⟨rfl, rfl⟩)
    go_returns
    exact ⟨rfl, rfl⟩
set_option maxRecDepth 100000 in
theorem zLen64 (w : World) : Calls Try.prog 114 #[.int .u64 0] w fun e w' => ∃ m, e = .returned (.int .i64 m) ∧ w' = w := by
  go_enter Try.func114, Try.ntmps114
  go_wp2
  go_ret
  exact ⟨_, rfl, rfl⟩
theorem zLen (w : World) : Calls Try.prog 101 #[.int .u64 0] w fun e w' => ∃ m, e = .returned (.int .i64 m) ∧ w' = w := by
  go_enter Try.func101, Try.ntmps101
  go_wp2_with (go_at_call 114; refine (zLen64 _).mono ?_; rintro e w' ⟨m, rfl, rfl⟩)
  go_ret
  exact ⟨m, rfl, rfl⟩
theorem zSort (w : World) : Calls Try.prog 83 #[.slice none 0 0] w fun e w' => e = .returned (.tuple #[]) ∧ w' = w := by
  go_enter Try.func83, Try.ntmps83
  go_wp2_with (first
    | (go_at_call 101; refine (zLen _).mono ?_; rintro e w' ⟨m, rfl, rfl⟩)
    | (go_at_call 100; refine (zPdq _ _).mono ?_; rintro e w' ⟨rfl, rfl⟩)
    | fail)
  go_returns
  exact ⟨rfl, rfl⟩
theorem zCompact (w : World) : Calls Try.prog 84 #[.slice none 0 0] w fun e w' => e = .returned (.slice none 0 0) ∧ w' = w := by
  go_enter Try.func84, Try.ntmps84
  go_wp2
  go_ret
  exact ⟨rfl, rfl⟩
theorem eqNil (W : World) : (Op.equal 30 (.slice none 0 0) (.slice none 0 0)).run Try.prog W = .ok true W := run_equal_slice_nil W _ _ none 0 0 Try.underlying30
set_option maxRecDepth 100000 in
theorem zClone (w : World) : Calls Try.prog 82 #[.slice none 0 0] w fun e w' => e = .returned (.slice none 0 0) ∧ w' = w := by
  have h1 := eqNil
  have h2 : ∀ W : World, (binOp .eql 30 (.slice none 0 0) (.slice none 0 0)).run Try.prog W = .ok (.bool true) W := fun W => by simp [binOp, h1 W]
  go_enter Try.func82, Try.ntmps82
  go_wp2
  go_ret
  exact ⟨rfl, rfl⟩
theorem zSet (w : World) : Calls Try.prog 58 #[.slice none 0 0] w fun e w' => e = .returned (.slice none 0 0) ∧ w' = w := by
  go_enter Try.func58, Try.ntmps58
  go_wp2_with (first
    | (go_at_call 82; refine (zClone _).mono ?_; rintro e w' ⟨rfl, rfl⟩)
    | (go_at_call 83; refine (zSort _).mono ?_; rintro e w' ⟨rfl, rfl⟩)
    | (go_at_call 84; refine (zCompact _).mono ?_; rintro e w' ⟨rfl, rfl⟩)
    | fail)
  go_ret
  exact ⟨rfl, rfl⟩
theorem zGrow (w : World) : Calls Try.prog 102 #[.slice none 0 0, .int .i64 0] w fun e w' => e = .returned (.slice none 0 0) ∧ w' = w := by
  go_enter Try.func102, Try.ntmps102
  go_wp2
  go_ret
  exact ⟨rfl, rfl⟩
theorem ixRR (g i n c : Nat) (hi : i < n) (W : World) : (Instr.indexAt 135 (.slice (some ⟨g, 0, none⟩) n c) (.int .i64 (i : Int))).run Try.prog W = .ok (.pointer (some ⟨g, i, none⟩)) W := by
  have he : Try.prog.elem 135 = 30 := by kernel_rfl
  rw [run_indexAt_slice W 135 _ _ _ _ _ (by rw [he]; kernel_rfl), if_pos ⟨by omega, by omega⟩, he, sizeN (n := 1) (by kernel_rfl)]
  simp only [Result.andThen_ok, Int.toNat_natCast, Addr.add_mid, Nat.mul_one, Nat.zero_add]
theorem wpList_app_nil {ops : Array Oper} {rest : List Oper} {o : Oper} {a : Act} {w : World} {Q : Exit → Act → World → Prop} (hg : o.guard = none) (s y : Operand) (ho : o.op = .call { callee := .builtin .append, args := #[s, y], argTypes := #[30, 30] }) (hty : o.type = 30) (d : Option Tmp) (hd : o.dst = d) (hs : a.eval s = .slice none 0 0) (hy : a.eval y = .slice none 0 0)
    (h : wpList Try.prog ops Q rest (a.put d (.slice none 0 0)) w) : wpList Try.prog ops Q (o :: rest) a w := by
  subst hd
  refine wpList_plain hg fun K hK => ?_
  have hr : (Builtin.append_ #[30, 30] o.type #[.slice none 0 0, .slice none 0 0]).run Try.prog w = .ok (.slice none 0 0) w := by rw [hty]; kernel_rfl
  unfold Oper.wp execOp
  simp only [ho, resolve, invoke, builtin, Sem.run_bind, Sem.run_pure, Result.andThen_ok, List.map_toArray, List.map_cons, List.map_nil, hs, hy, hr]
  exact hK _ _ h
set_option maxRecDepth 100000 in
set_option maxHeartbeats 1000000 in
/-- two lists of no runes, one behind the other -/
theorem zConcat (g : Nat) (w : World) (h : w.rangeAt g 0 [.slice none 0 0, .slice none 0 0]) : Calls Try.prog 86 #[.slice (some ⟨g, 0, none⟩) 2 2] w fun e w' => e = .returned (.slice none 0 0) ∧ w' = w := by
  have HC : Hid (∀ k : Nat, k < 2 → w.cell? ⟨g, k, none⟩ = some (.slice none 0 0)) := fun k hk => by
    have : k = 0 ∨ k = 1 := by omega
    rcases this with rfl | rfl
    · simpa using h 0 _ rfl
    · simpa using h 1 _ rfl
  clear h
  go_enter Try.func86, Try.ntmps86
  go_wp2
  go_loopw [3, 11] (fun s3 i wr => ∃ k : Nat, k ≤ 2 ∧ i = .int .i64 k ∧ s3 = .int .i64 0 ∧ wr = w) (fun _ i _ => 2 - (intOf i).toNat)
  case atStart => exact ⟨0, by omega, rfl, rfl, rfl⟩
  case round =>
    obtain ⟨k, hk, rfl, rfl, hw⟩ := hrel
    obtain rfl := hw.symm
    by_cases hlt : k < 2
    · have hki : (k : Int) < 2 := by omega
      have hix := ixRR g k 2 2 hlt
      have c0 := unhide HC k hlt
      go_wp2
      go_roundw
      case rel => exact ⟨k + 1, by omega, by go_num, rfl, trivial⟩
      case measure => simp [intOf]; omega
    · obtain rfl : k = 2 := by omega
      have hki : ¬ (2 : Int) < 2 := by omega
      go_wp2_with (go_at_call 102; refine (zGrow _).mono ?_; rintro e w1 ⟨rfl, hw1⟩; obtain rfl := hw1.symm)
      go_loopw [6, 27] (fun s6 i wr => ∃ k : Nat, k ≤ 2 ∧ i = .int .i64 k ∧ s6 = .slice none 0 0 ∧ wr = w) (fun _ i _ => 2 - (intOf i).toNat)
      case atStart => exact ⟨0, by omega, rfl, rfl, rfl⟩
      case round =>
        obtain ⟨k, hk, rfl, rfl, hw⟩ := hrel
        obtain rfl := hw.symm
        by_cases hlt : k < 2
        · have hki : (k : Int) < 2 := by omega
          have hix := ixRR g k 2 2 hlt
          have c0 := unhide HC k hlt
          go_wp2_with (first
            | ((with_reducible refine wpList_app_nil (by rfl) (.tmp 31) (.tmp 32) (by rfl) (by rfl) (some 33) (by rfl) (by with_unfolding_all rfl) (by with_unfolding_all rfl) ?_); simp only [Act.put, List.setIfInBounds_toArray, List.set_cons_zero, List.set_cons_succ])
            | fail)
          go_roundw
          case rel => exact ⟨k + 1, by omega, by go_num, rfl, trivial⟩
          case measure => simp [intOf]; omega
        · obtain rfl : k = 2 := by omega
          have hki : ¬ (2 : Int) < 2 := by omega
          go_wp2
          go_ret
          exact ⟨rfl, rfl⟩
end Go.Proofs.Ytpepgealeanecaa
