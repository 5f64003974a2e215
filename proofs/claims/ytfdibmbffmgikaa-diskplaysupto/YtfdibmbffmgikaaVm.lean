/- The document's disk: New. -/
import Derived.Test.YtfdibmbffmgikaaVd
namespace Go.Proofs.Ytfdibmbffmgikaa
open Go.RowKit Go.Lib

theorem rNewBad (x : Int) (hx : x < 1 ∨ 4096 < x) (u : World) : Calls Try.prog 19 #[.int .i64 x] u fun e u' => e = .returned (.tuple #[.pointer none, .int .i64 1]) ∧ u' = u := by
  by_cases h : x < 1
  · go_enter Try.func19, Try.ntmps19
    go_wp2
    go_ret2
    exact ⟨rfl, rfl⟩
  · have h2 : 4096 < x := by omega
    go_enter Try.func19, Try.ntmps19
    go_wp2
    go_ret2
    exact ⟨rfl, rfl⟩
set_option maxRecDepth 100000 in
set_option maxHeartbeats 1000000 in
theorem rNew (n : Nat) (h0 : 0 < n) (h1 : n ≤ 4096) (u : World) : Calls Try.prog 19 #[.int .i64 (n : Int)] u fun e u' => ∃ M v1, e = .returned (.tuple #[.pointer (some ⟨M, 0, none⟩), .int .i64 0]) ∧ RkX u.heap.size u' M v1 (.slice none 0 0) (Dk.blank n) ∧ Below u.heap.size u u' := by
  have hn0 : ¬ (n : Int) < 1 := by omega
  have hn1 : ¬ (4096 : Int) < (n : Int) := by omega
  have hni : (n : Int) ≤ 4096 := by omega
  obtain ⟨S, hS⟩ : ∃ S : ByteArray, S = ⟨(zeros 1024).toArray⟩ := ⟨_, rfl⟩
  have hmk := mkB u
  obtain ⟨W1, hW1⟩ : ∃ z, z = u.alloc (.cells (img (zeros 1024)) 5) := ⟨_, rfl⟩
  have hcv : (convert 28 9 (.slice (some ⟨u.heap.size, 0, none⟩) 1024 1024)).run Try.prog W1 = .ok (.string S) W1 := by rw [hS]; exact conv_range (row_range (by rw [hW1]; exact heap_alloc_new _ _)) 1024 1024 (zlen _).symm
  have HB1 : Hid (Below u.heap.size u W1) := by rw [hW1]; exact (Below.refl _ _).alloc (Nat.le_refl _) _
  rw [← hW1] at hmk
  have HS := hide hS
  obtain ⟨i0, hi, hz0, hz1, hz2⟩ := info_parts infoStr
  clear hW1 hS
  go_enter Try.func19, Try.ntmps19
  go_wp2
  go_loopw [4, 6] (fun v i wr => ∃ k : Nat, k ≤ n ∧ i = .int .i64 k ∧ Hid (wr.ownsRow u.heap.size 9 1 v k (List.replicate k (.string S)) ∧ Below u.heap.size u wr)) (fun _ i _ => n - (intOf i).toNat)
  case atStart => exact ⟨0, Nat.zero_le _, rfl, World.ownsRow_nil _ _ _ _, unhide HB1⟩
  case round =>
    clear hmk hcv
    obtain ⟨k, hk, rfl, HI⟩ := hrel
    by_cases hlt : k < n
    · have hki : (k : Int) < (n : Int) := by omega
      obtain ⟨ho, hu⟩ := unhide HI
      obtain ⟨ao, c, rfl⟩ := ownsRow_len ho
      have hown : (wr.alloc (.cells #[.string S] 9)).ownsRow u.heap.size 9 1 (.slice ao k c) k (List.replicate k (.string S)) := ownsRow_keep ho fun q hq => Deep.blk_alloc_lt wr _ q (ho.lt q hq).2
      obtain ⟨v', w5, hrun, hown', hgrow, hnew⟩ := run_append_own' (P := Try.prog) (wr.alloc (.cells #[.string S] 9)) u.heap.size 36 36 9 i0 (.string .empty) 1 16 Try.underlying36 hi hz0 hz1 hz2 rfl (by decide) (.slice ao k c) k (List.replicate k (.string S)) hown ⟨wr.heap.size, 0, none⟩ 1 1 [.string S] rfl (fun j y hy => by
        rw [Addr.add_mid, Nat.zero_add, cell_of_row _ wr.heap.size j _ _ _ (heap_alloc_new wr _)]
        simpa using hy) (fun y hy => by rw [List.mem_singleton.1 hy]; rfl) (by simp only [maxLen]; omega) (by omega) (by have := hu.size; simp; omega)
      have hb2 : Below u.heap.size u (wr.alloc (.cells #[.string S] 9)) := hu.alloc hu.size _
      have HNX : Hid (w5.ownsRow u.heap.size 9 1 v' (k + 1) (List.replicate (k + 1) (.string S)) ∧ Below u.heap.size u w5) := ⟨by rw [List.replicate_succ']; exact hown', hb2.grown hgrow hb2.size (fun q e => (hown.lt q e).1)⟩
      obtain ⟨ao', c', rfl⟩ := ownsRow_len hown'
      clear hown hown' hgrow hnew ho hu hb2 HI
      go_wp2_with (at_builtin; refine append_to (by rfl) (.tmp 20) (.tmp 22) 36 36 (by rfl) (some 23) (by rfl) 36 (by rfl) _ _ (by rfl) (by rfl) _ _ hrun ?_; simp only [Act.put, List.setIfInBounds_toArray, List.set_cons_zero, List.set_cons_succ])
      go_roundw
      case rel => exact ⟨k + 1, by omega, by go_num, HNX⟩
      case measure => simp [intOf]; omega
    · have hkk : n = k := by omega
      subst hkk
      obtain ⟨ho, hb⟩ := unhide HI
      obtain ⟨ao, c, rfl⟩ := ownsRow_len ho
      go_wp2
      go_ret2
      obtain ⟨ho, hb⟩ := unhide HI
      refine ⟨wr.heap.size, .slice ao n c, rfl, ⟨?_, ?_, World.ownsRow_nil _ _ _ _, hb.size, fun e => ?_, by simp [Value.ownBlock], fun k _ => by simp [Value.ownBlock], blank_ok n h0 h1⟩, hb.alloc hb.size _⟩
      · exact heap_alloc_new _ _
      · rw [show (Dk.blank n).lies.length = n from by simp [Dk.blank], show (Dk.blank n).lies.map str = List.replicate n (.string S) from by simp [Dk.blank, str, unhide HS]]
        exact ownsRow_keep ho fun k hk => Deep.blk_alloc_lt wr _ k (ho.lt k hk).2
      · have := (ho.lt _ e).2
        omega
end Go.Proofs.Ytfdibmbffmgikaa
