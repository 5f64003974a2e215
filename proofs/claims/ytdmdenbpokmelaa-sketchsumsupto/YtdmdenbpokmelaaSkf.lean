/- Sketches: Add, Take, New, Clone, Cells, copied. -/
import Derived.Test.YtdmdenbpokmelaaSke
namespace Go.Proofs.Ytdmdenbpokmelaa.K
open Go.RowKit Go.Lib
section
variable {a g cap : Nat} {l : List Ce} {u : World}
set_option maxHeartbeats 1000000 in
theorem kAdd (x : BitVec 64) (h : Sk u a g cap l) : Calls Try.prog 8 #[.pointer (some ⟨a, 0, none⟩), .int .u64 x.toNat] u fun e u' => e = .returned (.tuple #[]) ∧ Alt u u' g ∧ Sk u' a g cap (layB l x 1) := by
  have HL : Hid (Calls Try.prog 24 #[.pointer (some ⟨a, 0, none⟩), .int .u64 x.toNat, .int .i16 1] u fun e u' => e = .returned (.tuple #[]) ∧ Alt u u' g ∧ Sk u' a g cap (layB l x 1)) := kLay a g cap l x 1 u h
  clear h
  go_enter Try.func8, Try.ntmps8
  go_wp2_with (first
    | (go_at_call 24; refine (unhide HL).mono ?_; rintro e W1 ⟨rfl, ha, hk⟩; have HA := hide ha; have HK := hide hk; clear ha hk)
    | fail)
  go_returns
  exact ⟨rfl, unhide HA, unhide HK⟩
set_option maxHeartbeats 1000000 in
theorem kTake (x : BitVec 64) (h : Sk u a g cap l) : Calls Try.prog 9 #[.pointer (some ⟨a, 0, none⟩), .int .u64 x.toNat] u fun e u' => e = .returned (.tuple #[]) ∧ Alt u u' g ∧ Sk u' a g cap (layB l x (-1)) := by
  have HL : Hid (Calls Try.prog 24 #[.pointer (some ⟨a, 0, none⟩), .int .u64 x.toNat, .int .i16 (-1)] u fun e u' => e = .returned (.tuple #[]) ∧ Alt u u' g ∧ Sk u' a g cap (layB l x (-1))) := kLay a g cap l x (-1) u h
  clear h
  go_enter Try.func9, Try.ntmps9
  go_wp2_with (first
    | (go_at_call 24; refine (unhide HL).mono ?_; rintro e W1 ⟨rfl, ha, hk⟩; have HA := hide ha; have HK := hide hk; clear ha hk)
    | fail)
  go_returns
  exact ⟨rfl, unhide HA, unhide HK⟩
end
theorem ceInfo : ∃ i z, Try.prog.info? 57 = some i ∧ i.zero = some z ∧ z.cells = #[.int .i16 0, .int .u64 0, .int .u32 0] ∧ i.size = 3 ∧ i.bytes = 24 := by
  have h : (Try.prog.info? 57).map (fun i => (i.zero.map (·.cells), i.size, i.bytes)) = some (some #[.int .i16 0, .int .u64 0, .int .u32 0], 3, 24) := by kernel_rfl
  cases hq : Try.prog.info? 57 with
  | none => simp [hq] at h
  | some i =>
    simp only [hq, Option.map_some, Option.some.injEq, Prod.mk.injEq] at h
    cases hz : i.zero with
    | none => simp [hz] at h
    | some z => exact ⟨i, z, rfl, hz, by simpa [hz] using h.1, h.2.1, h.2.2⟩
theorem make_cells (n : Nat) (hm : n ≤ 256) (w : World) : (Instr.makeSlice 32 (.int .i64 (n : Int)) (.int .i64 (n : Int))).run Try.prog w = .ok (.slice (some ⟨w.heap.size, 0, none⟩) n n) (w.alloc (.cells (madeCells #[.int .i16 0, .int .u64 0, .int .u32 0] (n * 3)) 57)) := by
  obtain ⟨i, z, hi, hz, hc, hs, hb⟩ := ceInfo
  have hr := run_make (P := Try.prog) w 32 57 i z Try.underlying32 hi hz .i64 .i64 n n (by omega) (Int.le_refl _) (by rw [hb]; omega) (by omega)
  simp only [Int.toNat_natCast, hs, hc] at hr
  exact hr
theorem zerL_get (n q : Nat) (h : q < (zerL n).length) : (zerL n)[q] = .zer := List.getElem_replicate _
theorem made_hol (n : Nat) : Hol (madeCells #[.int .i16 0, .int .u64 0, .int .u32 0] (n * 3)) (zerL n) := by
  intro j v hv
  have hj := (List.getElem?_eq_some_iff.1 hv).1
  rw [RC.flat_len, zerL_len] at hj
  have hj3 : j < n * 3 := hj
  obtain ⟨q, f, hq, hf, rfl⟩ : ∃ q f, q < n ∧ f < 3 ∧ j = q * 3 + f := ⟨j / 3, j % 3, by omega, by omega, by omega⟩
  have hq2 : q < (zerL n).length := by rw [zerL_len]; exact hq
  have h3 := RC.flat_get (zerL n) q hq2 f hf
  have h3' : (RC.flat (zerL n))[q * 3 + f]? = (ceL (zerL n)[q])[f]? := h3
  rw [h3', show (zerL n)[q] = .zer from zerL_get n q hq2] at hv
  have e : (q * 3 + f) % 3 = f := by omega
  unfold madeCells
  rcases (by omega : f = 0 ∨ f = 1 ∨ f = 2) with rfl | rfl | rfl
  · have hv' : Value.int .i16 0 = v := by simpa [ceL, Ce.zer] using hv
    have e1 : q * 3 < n * 3 := by omega
    have e2 : q * 3 % 3 = 0 := by omega
    simp [e1, hv']
  · have hv' : Value.int .u64 0 = v := by simpa [ceL, Ce.zer] using hv
    simp [hj3, e, hv']
  · have hv' : Value.int .u32 0 = v := by simpa [ceL, Ce.zer] using hv
    simp [hj3, e, hv']
set_option maxHeartbeats 1000000 in
theorem kNewBad (n : Int) (h : n < 3 ∨ 256 < n) (u : World) : Calls Try.prog 12 #[.int .i64 n] u fun e u' => e = .returned (.tuple #[.pointer none, .int .i64 1]) ∧ u' = u := by
  by_cases h1 : n < 3
  · clear h
    go_enter Try.func12, Try.ntmps12
    go_wp2
    go_ret2
    exact ⟨rfl, rfl⟩
  · have h2 : 256 < n := by omega
    clear h
    go_enter Try.func12, Try.ntmps12
    go_wp2
    go_ret2
    exact ⟨rfl, rfl⟩
set_option maxHeartbeats 1000000 in
theorem kNew (n : Nat) (h3 : 3 ≤ n) (hm : n ≤ 256) (u : World) : Calls Try.prog 12 #[.int .i64 (n : Int)] u fun e u' => ∃ a g, e = .returned (.tuple #[.pointer (some ⟨a, 0, none⟩), .int .i64 0]) ∧ Sk u' a g n (zerL n) ∧ Below u.heap.size u u' ∧ u.heap.size ≤ a ∧ u.heap.size ≤ g := by
  have hmk := make_cells n hm u
  have h1 : ¬ (n : Int) < 3 := by omega
  have h2 : ¬ (n : Int) > 256 := by omega
  have HC := hide (made_hol n)
  have HE := hide (zerL_len n)
  have hh := heap_alloc_new u (.cells (madeCells #[.int .i16 0, .int .u64 0, .int .u32 0] (n * 3)) 57)
  have hb := (Below.refl u.heap.size u).alloc (Nat.le_refl _) (.cells (madeCells #[.int .i16 0, .int .u64 0, .int .u32 0] (n * 3)) 57)
  have hs := World.size_alloc u (.cells (madeCells #[.int .i16 0, .int .u64 0, .int .u32 0] (n * 3)) 57)
  generalize u.alloc (.cells (madeCells #[.int .i16 0, .int .u64 0, .int .u32 0] (n * 3)) 57) = U at *
  have HH := hide hh
  have HB := hide hb
  have HS := hide hs
  have H3 := hide h3
  have HM := hide hm
  clear hh hb hs h3 hm
  go_enter Try.func12, Try.ntmps12
  go_wp2
  go_ret2
  have hx := heap_alloc_new U (.cells #[.slice (some ⟨u.heap.size, 0, none⟩) n n] 53)
  refine ⟨U.heap.size, rfl, u.heap.size, ⟨?_, ⟨_, _, heapOld _ (unhide HH), unhide HC⟩, ?_, ?_, ?_, ?_⟩, (unhide HB).alloc (unhide HB).size _, (unhide HB).size, Nat.le_refl _⟩
  · rw [unhide HE]; exact hx
  · rw [unhide HS]; omega
  · rw [unhide HE]; exact unhide H3
  · rw [unhide HE]; exact unhide HM
  · rw [unhide HE]; exact Nat.le_refl _
end Go.Proofs.Ytdmdenbpokmelaa.K
