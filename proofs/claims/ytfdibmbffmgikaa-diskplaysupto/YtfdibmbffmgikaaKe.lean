/- The disk: Read. -/
import Derived.Test.YtfdibmbffmgikaaKd
namespace Go.Proofs.Ytfdibmbffmgikaa
open Go.RowKit Go.Lib

theorem infoU8 : (Try.prog.info? 5).map (fun i => (i.zero, i.size, i.bytes)) = some (some (.int .u8 0), 1, 1) := by kernel_rfl
theorem mkBytes (n : Nat) (hn : n ≤ 281474976710656) (u : World) : (Instr.makeSlice 28 (.int .i64 (n : Int)) (.int .i64 (n : Int))).run Try.prog u = .ok (.slice (some ⟨u.heap.size, 0, none⟩) n n) (u.alloc (.cells (madeCells #[.int .u8 0] n) 5)) :=
  run_make_row' (P := Try.prog) 28 5 (.int .u8 0) 1 Try.underlying28 infoU8 rfl .i64 .i64 n (by omega) (by omega) u
theorem copyAll (W : World) (N g o : Nat) (cur : Array Value) (t : TypeId) (l : List UInt8) (hl : l.length = 1024) (hN : W.heap[N]? = some (.cells cur t (0, 0))) (hc : cur.size = 1024) (hr : W.rangeAt g o (byteCells l)) :
    (Builtin.copy_ #[28, 28] 3 #[.slice (some ⟨N, 0, none⟩) 1024 1024, .slice (some ⟨g, o, none⟩) 1024 1024]).run Try.prog W = .ok (.int .i64 1024) (W.setRow N (img l)) := by
  have hbl : (byteCells l).length = 1024 := by rw [byteCells_length, hl]
  have := run_copy_row (P := Try.prog) W 28 28 3 5 N 0 1024 1024 ⟨g, o, none⟩ 1024 1024 cur t (byteCells l) Try.underlying28 u8Info hN (by rw [hbl]; rfl) (fun j x hx => by rw [Addr.add_mid]; exact hr j x hx) (by omega) (byteCells_one l)
  rw [this, hbl, List.take_zero, List.nil_append, List.drop_of_length_le (by rw [Array.length_toList]; omega), List.append_nil]
  rfl
section
variable {B : Nat} {u : World} {D L T : Nat} {v : Value} {f : List Nat} {d : Dk} {F : List Nat}
theorem newest_len (p : List (Nat × List UInt8)) (hp : ∀ q ∈ p, q.2.length = 1024) (n : Nat) : ∀ (l : List UInt8), l.length = 1024 → (newest l p n).length = 1024 := by
  induction p with
  | nil => exact fun l h => h
  | cons q p ih =>
    intro l h
    have ih := ih (fun r hr => hp r (by simp [hr]))
    simp only [newest, List.foldl_cons] at ih ⊢
    by_cases hq : q.1 = n
    · rw [if_pos hq]; exact ih _ (hp q (by simp))
    · rw [if_neg hq]; exact ih _ h
theorem Dk.Ok.page_len (h : d.Ok) (i : Nat) (hi : i < d.lies.length) : (d.page i).length = 1024 := newest_len _ (fun q hq => (h.pg q hq).2) _ _ (h.len _ (getD_mem _ _ hi _))
set_option maxRecDepth 100000 in
theorem kReadOk (h : DskX B u D L T v f d) (i : Nat) (hi : i < d.lies.length) (hoff : d.off = false) (hm : d.pend.length ≤ 1000000000000) : Calls Try.prog 12 #[.pointer (some ⟨D, 0, none⟩), .int .i64 (i : Int)] u fun e u' =>
    e = .returned (.tuple #[.slice (some ⟨u.heap.size, 0, none⟩) 1024 1024, .int .i64 0]) ∧ u'.heap[u.heap.size]? = some (.cells (img (d.page i)) 5 (0, 0)) ∧ Below u.heap.size u u' ∧ u'.heap.size = u.heap.size + 1 := by
  have hk := kRefused h (i : Int)
  have e0 : d.refused (i : Int) = 0 := by rw [Dk.refused, hoff, if_neg (by decide), if_pos ⟨by omega, by omega⟩]
  rw [e0] at hk
  have HD := hide h
  have hpl := h.ok.page_len i hi
  have hmk : ∀ u : World, (Instr.makeSlice 28 (.int .i64 1024) (.int .i64 1024)).run Try.prog u = .ok (.slice (some ⟨u.heap.size, 0, none⟩) 1024 1024) (u.alloc (.cells (madeCells #[.int .u8 0] 1024) 5)) := mkBytes 1024 (by decide)
  clear h e0
  go_enter Try.func12, Try.ntmps12
  go_wp2_with fail
  refine hk.mono ?_
  rintro e w1 ⟨rfl, hw⟩
  obtain rfl := hw.symm
  clear hw hk
  go_wp2_with fail
  have hbel : Below u.heap.size u (u.alloc (.cells (madeCells #[.int .u8 0] 1024) 5)) := (Below.refl _ _).alloc (Nat.le_refl _) _
  have hnew : (u.alloc (.cells (madeCells #[.int .u8 0] 1024) 5)).heap[u.heap.size]? = some (.cells (madeCells #[.int .u8 0] 1024) 5 (0, 0)) := heap_alloc_new _ _
  have hsz : (u.alloc (.cells (madeCells #[.int .u8 0] 1024) 5)).heap.size = u.heap.size + 1 := by simp
  have HDW := hide ((unhide HD).below hbel)
  generalize u.alloc (.cells (madeCells #[.int .u8 0] 1024) 5) = W at *
  clear hmk
  refine (kNewest (unhide HDW) i hi hm).mono ?_
  rintro e w1 ⟨g, o, rfl, hw, hor, hr⟩
  obtain rfl := hw.symm
  clear hw
  have hcp := copyAll W u.heap.size g o _ _ (d.page i) hpl hnew (size_madeCells _ _) hr
  have hres : (W.setRow u.heap.size (img (d.page i))).heap[u.heap.size]? = some (.cells (img (d.page i)) 5 (0, 0)) := heapRow_same hnew _
  have hbel2 : Below u.heap.size u (W.setRow u.heap.size (img (d.page i))) := ⟨hbel.os, hbel.tape, hbel.output, by simpa [World.setRow] using hbel.size, fun k hk => (heapRow_other W _ k _ (by omega)).trans (hbel.block k hk)⟩
  have hsz2 : (W.setRow u.heap.size (img (d.page i))).heap.size = u.heap.size + 1 := by rw [← hsz]; simp [World.setRow]
  have HR := hide (And.intro hres (And.intro hbel2 hsz2))
  clear hres hbel2 hbel hnew hsz hsz2 hr hor
  generalize W.setRow u.heap.size (img (d.page i)) = W2 at *
  have hsl := slPage g o
  go_wp2
  go_ret2
  exact ⟨rfl, unhide HR⟩
theorem kReadBad (h : DskX B u D L T v f d) (x : Int) (c : Int) (hc : d.refused x = c) (h0 : c ≠ 0) : Calls Try.prog 12 #[.pointer (some ⟨D, 0, none⟩), .int .i64 x] u fun e u' =>
    e = .returned (.tuple #[.slice none 0 0, .int .i64 c]) ∧ u' = u := by
  have hk := kRefused h x
  rw [hc] at hk
  clear h hc
  go_enter Try.func12, Try.ntmps12
  go_wp2_with fail
  refine hk.mono ?_
  rintro e w1 ⟨rfl, hw⟩
  obtain rfl := hw.symm
  clear hw hk
  go_wp2
  go_ret2
  exact ⟨rfl, rfl⟩
end
end Go.Proofs.Ytfdibmbffmgikaa
