/- The disk: Durable, Load. -/
import Derived.Test.YtfdibmbffmgikaaKi
import Derived.Lib.ConvBytes
namespace Go.Proofs.Ytfdibmbffmgikaa
open Go.RowKit Go.Lib

def str (b : List UInt8) : Value := .string ⟨b.toArray⟩
def strs (l : List (List UInt8)) : Array Value := (l.map str).toArray
theorem infoStr : (Try.prog.info? 9).map (fun i => (i.zero, i.size, i.bytes)) = some (some (.string .empty), 1, 16) := by kernel_rfl
theorem mkStrs (n : Nat) (hn : n ≤ 1000000000000) (W : World) : (Instr.makeSlice 36 (.int .i64 (n : Int)) (.int .i64 (n : Int))).run Try.prog W = .ok (.slice (some ⟨W.heap.size, 0, none⟩) n n) (W.alloc (.cells (List.replicate n (Value.string .empty)).toArray 9)) := by
  rw [run_make_row' (P := Try.prog) 36 9 (.string .empty) 16 Try.underlying36 infoStr rfl .i64 .i64 n (by omega) (by omega) W]
  congr 4
  apply Array.ext_getElem?
  intro k
  by_cases hk : k < n
  · simp [madeCells, hk, Nat.mod_one]
  · rw [Array.getElem?_eq_none (by rw [size_madeCells]; omega), Array.getElem?_eq_none (by simp; omega)]
theorem conv_range {u : World} {g o : Nat} {bs : List UInt8} (h : u.rangeAt g o (byteCells bs)) (n cap : Nat) (hn : n = bs.length) : (convert 28 9 (.slice (some ⟨g, o, none⟩) n cap)).run Try.prog u = .ok (.string ⟨bs.toArray⟩) u := by
  subst hn
  refine run_convert_bytes_back u 28 9 5 ⟨g, o, none⟩ cap bs Try.underlying28 Try.underlying5 Try.underlying9 fun j hj => ?_
  rw [Addr.add_mid]
  exact h j _ (bcells_at bs j hj)
theorem row_step (l : List (List UInt8)) (k : Nat) (hk : k < l.length) (x : List UInt8) (hx : x = l.getD k []) :
    (((l.take k).map str ++ List.replicate (l.length - k) (Value.string .empty)).toArray.setIfInBounds k (.string ⟨x.toArray⟩)) = ((l.take (k + 1)).map str ++ List.replicate (l.length - (k + 1)) (Value.string .empty)).toArray := by
  have e1 : l.length - k = (l.length - (k + 1)) + 1 := by omega
  have e2 : (((l.take k).map str).length) = k := by simp; omega
  have e3 : l.take (k + 1) = l.take k ++ [x] := by
    rw [hx, List.take_add_one, List.getD_eq_getElem?_getD, List.getElem?_eq_getElem hk]
    rfl
  rw [List.setIfInBounds_toArray, List.set_append_right _ _ (by omega), e2, Nat.sub_self, e1, List.replicate_succ, List.set_cons_zero, e3, List.map_append, List.append_assoc]
  rfl
section
variable {B : Nat} {u : World} {D L T : Nat} {v : Value} {f : List Nat} {d : Dk} {F : List Nat}
set_option maxRecDepth 100000 in
set_option maxHeartbeats 1000000 in
theorem kDurable (h : DskX B u D L T v f d) : Calls Try.prog 18 #[.pointer (some ⟨D, 0, none⟩)] u fun e u' =>
    e = .returned (.slice (some ⟨u.heap.size, 0, none⟩) d.lies.length d.lies.length) ∧ u'.heap[u.heap.size]? = some (.cells (strs d.lies) 9 (0, 0)) ∧ Below u.heap.size u u' ∧ u'.heap.size = u.heap.size + 1 := by
  obtain ⟨N, hN⟩ : ∃ N, N = u.heap.size := ⟨_, rfl⟩
  obtain ⟨n, hn⟩ : ∃ n, n = d.lies.length := ⟨_, rfl⟩
  have hn1 : n ≤ 4096 := by rw [hn]; exact h.ok.max
  have c0 := h.c0
  have hmk := mkStrs n (by omega) u
  rw [← hN] at hmk
  obtain ⟨C0, hC0⟩ : ∃ C, C = (List.replicate n (Value.string .empty)).toArray := ⟨_, rfl⟩
  rw [← hC0] at hmk
  have HC0 := hide hC0
  clear hC0
  have hDlt : D < u.heap.size := h.lt_of.1
  have HH := hide h
  have HNN := hide hn
  have HN := hide hN
  rw [← hn] at c0
  rw [← hn, ← hN]
  clear h hN hn
  go_enter Try.func18, Try.ntmps18
  go_wp2
  have HI0 : Hid (Below N u (u.alloc (.cells C0 9)) ∧ (u.alloc (.cells C0 9)).heap[N]? = some (.cells ((d.lies.take 0).map str ++ List.replicate (d.lies.length - 0) (Value.string .empty)).toArray 9 (0, 0)) ∧ (u.alloc (.cells C0 9)).heap.size = N + 1) := by
    have e1 : (u.alloc (.cells C0 9)).heap[u.heap.size]? = some (.cells C0 9 (0, 0)) := heap_alloc_new _ _
    refine ⟨(Below.refl _ _).alloc (by rw [unhide HN]; exact Nat.le_refl _) _, ?_, by rw [unhide HN]; simp⟩
    rw [unhide HN, e1, unhide HC0, ← unhide HNN]
    rfl
  generalize u.alloc (.cells C0 9) = W0 at *
  go_loopw [18] (fun i wr => ∃ k : Nat, k ≤ n ∧ i = .int .i64 k ∧ Hid (Below N u wr ∧ wr.heap[N]? = some (.cells ((d.lies.take k).map str ++ List.replicate (d.lies.length - k) (Value.string .empty)).toArray 9 (0, 0)) ∧ wr.heap.size = N + 1)) (fun i _ => n - (intOf i).toNat)
  case atStart => exact ⟨0, Nat.zero_le _, rfl, HI0⟩
  case round =>
    obtain ⟨k, hk, rfl, HI⟩ := hrel
    clear hmk HI0 hDlt
    by_cases hlt : k < n
    · have hki : (k : Int) < (n : Int) := by omega
      have hkl : k < d.lies.length := by rw [← unhide HNN]; exact hlt
      have hDw := (unhide HH).below (u' := wr) (by rw [← unhide HN]; exact (unhide HI).1)
      have c0' := hDw.c0
      rw [← unhide HNN] at c0'
      have hix := ixPages L n n k hlt
      have hsp := slPage L (k * 1024)
      have hcv := conv_range (hDw.page_at k hkl) 1024 1024 (hDw.ok.len _ (getD_mem _ _ hkl _)).symm
      have hcz : wr.frozen? ⟨N, k, none⟩ = false := by simp [World.frozen?, (unhide HI).2.1]
      have hcs : (wr.cell? ⟨N, k, none⟩).isSome = true := by
        rw [cell_of_row wr N k _ _ _ (unhide HI).2.1]
        simp only [List.getElem?_toArray]
        rw [List.getElem?_eq_getElem (by simp; omega)]
        rfl
      obtain ⟨y, hy⟩ := Option.isSome_iff_exists.1 hcs
      obtain ⟨S, hS⟩ : ∃ S : ByteArray, S = ⟨(d.lies.getD k []).toArray⟩ := ⟨_, rfl⟩
      rw [← hS] at hcv
      have HNX : Hid (Below N u (wr.setCell ⟨N, k, none⟩ (.string S)) ∧ (wr.setCell ⟨N, k, none⟩ (.string S)).heap[N]? = some (.cells ((d.lies.take (k + 1)).map str ++ List.replicate (d.lies.length - (k + 1)) (Value.string .empty)).toArray 9 (0, 0)) ∧ (wr.setCell ⟨N, k, none⟩ (.string S)).heap.size = N + 1) := by
        refine ⟨belowCell (unhide HI).1 (p := ⟨N, k, none⟩) (Nat.le_refl _) _, ?_, by rw [← (unhide HI).2.2]; simp [World.setCell]⟩
        rw [heapCell_same (unhide HI).2.1, hS, row_step d.lies k hkl _ rfl]
      clear hDw HI hcs hS hkl
      go_wp2
      go_roundw
      case rel => exact ⟨k + 1, by omega, by go_num, HNX⟩
      case measure => simp [intOf]; omega
    · have hkk : k = n := by omega
      subst hkk
      go_wp2
      go_ret
      obtain ⟨h1, h2, h3⟩ := unhide HI
      refine ⟨rfl, ?_, h1, h3⟩
      rw [h2, unhide HNN, List.take_length, Nat.sub_self, List.replicate_zero, List.append_nil]
      rfl
end
end Go.Proofs.Ytfdibmbffmgikaa
