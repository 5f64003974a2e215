/- Sketches: lists of items; Sort of at most one. -/
import Derived.Test.YtopabadnbelegaaQSki
namespace Go.Proofs.Ytopabadnbelegaa.K
open Go.RowKit Go.Lib
open Go.Proofs.Ytopabadnbelegaa.S (Rec)
def RW : S.Rec Try.prog (BitVec 64) where
  st := 28
  et := 24
  n := 1
  bts := 8
  cs := fun x => [.int .u64 x.toNat]
  hn := by decide
  len := fun _ => rfl
  one := fun a v hv => by
    rcases List.mem_cons.1 hv with rfl | hv
    · rfl
    · cases hv
  und := Try.underlying28
  info := by
    have h : (Try.prog.info? 24).map (fun i => (i.zero.map (·.cells.size), i.size, i.bytes)) = some (some 1, 1, 8) := by kernel_rfl
    cases hq : Try.prog.info? 24 with
    | none => simp [hq] at h
    | some i =>
      simp only [hq, Option.map_some, Option.some.injEq, Prod.mk.injEq] at h
      cases hz : i.zero with
      | none => simp [hz] at h
      | some z => exact ⟨i, z, rfl, hz, by simpa [hz] using h.1, h.2.1, h.2.2⟩
  pos := by decide
/-- all that lay there lies there still, but for a list's block -/
structure AltO (u w : World) (ao : Option Addr) : Prop where
  os : w.os = u.os
  tape : w.tape = u.tape
  output : w.output = u.output
  size : u.heap.size ≤ w.heap.size
  block : ∀ k, k < u.heap.size → ao.map (·.block) ≠ some k → w.heap[k]? = u.heap[k]?
theorem AltO.of {u w : World} (ao : Option Addr) (h : Below u.heap.size u w) : AltO u w ao := ⟨h.os, h.tape, h.output, h.size, fun k hk _ => h.block k hk⟩
/-- items in order -/
def srtB (m : List (BitVec 64)) : List (BitVec 64) := m.mergeSort (fun a b => decide (a.toNat ≤ b.toNat))
theorem srtB_one {m : List (BitVec 64)} (h : m.length ≤ 1) : srtB m = m := by
  match m, h with
  | [], _ => simp [srtB]
  | [x], _ => simp [srtB]
/-- Sort sorts this list -/
def SortOK (m : List (BitVec 64)) : Prop := ∀ (u : World) (B : Nat) (ao : Option Addr) (c : Nat), RW.Own u B m ao c → Calls Try.prog 28 #[.slice ao m.length c] u fun e u' => e = .returned (.tuple #[]) ∧ RW.Own u' B (srtB m) ao c ∧ AltO u u' ao
set_option maxRecDepth 100000 in
set_option maxHeartbeats 4000000 in
theorem kLen64 (n : Nat) (hn : n ≤ 1) (u : World) : Calls Try.prog 65 #[.int .u64 (n : Int)] u fun e u' => e = .returned (.int .i64 (n : Int)) ∧ u' = u := by
  rcases (by omega : n = 0 ∨ n = 1) with rfl | rfl
  · go_enter Try.func65, Try.ntmps65
    go_wp2
    go_ret
    exact ⟨by kernel_rfl, rfl⟩
  · go_enter Try.func65, Try.ntmps65
    go_wp2
    go_ret
    exact ⟨by kernel_rfl, rfl⟩
set_option maxHeartbeats 1000000 in
theorem kLen (n : Nat) (hn : n ≤ 1) (u : World) : Calls Try.prog 43 #[.int .u64 (n : Int)] u fun e u' => e = .returned (.int .i64 (n : Int)) ∧ u' = u := by
  have HL := hide (kLen64 n hn u)
  go_enter Try.func43, Try.ntmps43
  go_wp2_with (first
    | (go_at_call 65; refine (unhide HL).mono ?_; rintro e wq ⟨rfl, hwq⟩; obtain rfl := hwq.symm)
    | fail)
  go_ret
  exact ⟨rfl, rfl⟩
set_option maxHeartbeats 1000000 in
theorem kIns1 (n c : Nat) (hn : n ≤ 1) (ao : Option Addr) (u : World) : Calls Try.prog 55 #[.slice ao n c, .int .i64 0, .int .i64 (n : Int)] u fun e u' => e = .returned (.tuple #[]) ∧ u' = u := by
  have h1 : ¬ (1 : Int) < (n : Int) := by omega
  clear hn
  go_enter Try.func55, Try.ntmps55
  go_wp2
  go_loopw [6] (fun s6 wr => s6 = .int .i64 1 ∧ wr = u) (fun _ _ => 0)
  case atStart => exact ⟨rfl, rfl⟩
  case round =>
    obtain ⟨rfl, rfl⟩ := hrel
    go_wp2
    go_returns
    exact ⟨rfl, rfl⟩
set_option maxHeartbeats 2000000 in
theorem kPdq1 (n c : Nat) (hn : n ≤ 1) (ao : Option Addr) (k : Int) (u : World) : Calls Try.prog 42 #[.slice ao n c, .int .i64 0, .int .i64 (n : Int), .int .i64 k] u fun e u' => e = .returned (.tuple #[]) ∧ u' = u := by
  have h1 : (n : Int) ≤ 12 := by omega
  have HI := hide (kIns1 n c hn ao u)
  clear hn
  go_enter Try.func42, Try.ntmps42
  go_wp2
  go_loopw [1, 2, 3, 8, 9] (fun s1 s2 s3 s8 s9 wr => s1 = .int .i64 0 ∧ s2 = .int .i64 (n : Int) ∧ s3 = .int .i64 k ∧ s8 = .bool true ∧ s9 = .bool true ∧ wr = u) (fun _ _ _ _ _ _ => 0)
  case atStart => exact ⟨rfl, rfl, rfl, rfl, rfl, rfl⟩
  case round =>
    obtain ⟨rfl, rfl, rfl, rfl, rfl, rfl⟩ := hrel
    go_wp2_with (first
      | (go_at_call 55; refine (unhide HI).mono ?_; rintro e wq ⟨rfl, hwq⟩; obtain rfl := hwq.symm)
      | fail)
    go_returns
    exact ⟨rfl, rfl⟩
set_option maxHeartbeats 2000000 in
theorem sort_one (m : List (BitVec 64)) (hm : m.length ≤ 1) : SortOK m := by
  intro u B ao c ho
  rw [srtB_one hm]
  have HO := hide ho
  obtain ⟨n, hn⟩ : ∃ n, n = m.length := ⟨_, rfl⟩
  rw [← hn] at hm ⊢
  have HL := hide (kLen n hm u)
  have HP := hide (fun k => kPdq1 n c hm ao k u)
  have hw : IntKind.u64.wrap (n : Int) = (n : Int) := by rw [IntKind.wrap_u64]; omega
  clear ho hn hm
  go_enter Try.func28, Try.ntmps28
  go_wp2_with (first
    | (go_at_call 43; refine (unhide HL).mono ?_; rintro e wq ⟨rfl, hwq⟩; obtain rfl := hwq.symm)
    | (go_at_call 42; refine (unhide HP _).mono ?_; rintro e wq ⟨rfl, hwq⟩; obtain rfl := hwq.symm)
    | fail)
  go_returns
  exact ⟨rfl, unhide HO, AltO.of _ (Below.refl _ _)⟩
end Go.Proofs.Ytopabadnbelegaa.K
