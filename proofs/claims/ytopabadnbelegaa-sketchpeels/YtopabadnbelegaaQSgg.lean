/- Segments: lists, homes, the program's form. Written by mksgg.py. -/
import Derived.Test.YtopabadnbelegaaQSgf
namespace Go.Proofs.Ytopabadnbelegaa.S
open Go.RowKit Go.Lib
theorem El.first {w : World} {e : En} {l : List En} {ao : Option Addr} {n c : Nat} (h : El w (e :: l) ao n c) : ∃ g o, ao = some ⟨g, o, none⟩ ∧ w.cell? ⟨g, o, none⟩ = some (.string e.1) ∧ w.cell? ⟨g, o + 1, none⟩ = some (.string e.2) := by
  obtain ⟨g, o, h1, h2, h3⟩ := h.en (i := 0) (Nat.succ_pos _)
  rw [Nat.zero_mul, Nat.add_zero] at h2 h3
  exact ⟨g, o, h1, h2, h3⟩
theorem ixE0 (g o n c : Nat) (hi : 0 < n) (W : World) : (Instr.indexAt 40 (.slice (some ⟨g, o, none⟩) n c) (.int .i64 0)).run Try.prog W = .ok (.pointer (some ⟨g, o, none⟩)) W := by
  have := ixE g o n c 0 hi W
  rwa [Nat.zero_mul, Nat.add_zero] at this
/-- keys and sums that are short -/
def Short (l : List En) : Prop := ∀ e ∈ l, e.1.size ≤ 32 ∧ e.2.size ≤ 32
theorem uintB_len (v : Nat) : (W.uintB 9 v).length ≤ 10 := (W.uintB_length 9 v).2
theorem ensB_len : ∀ (l : List En), Short l → (ensB l).length ≤ l.length * 84
  | [], _ => by simp [ensB]
  | e :: l, h => by
    have h1 := ensB_len l fun x hx => h x (List.mem_cons_of_mem _ hx)
    have h2 := h e List.mem_cons_self
    have e1 : ensB (e :: l) = enB e ++ ensB l := by simp [ensB]
    have e2 : (enB e).length ≤ 84 := by
      unfold enB textB
      have h3 := uintB_len e.1.size
      have h4 := uintB_len e.2.size
      have h5 : e.1.data.toList.length = e.1.size := rfl
      have h6 : e.2.data.toList.length = e.2.size := rfl
      simp only [List.length_append, h5, h6]
      omega
    rw [e1, List.length_append, List.length_cons]
    omega
theorem Short.take {l : List En} (h : Short l) (k : Nat) : Short (l.take k) := fun e he => h e (List.mem_of_mem_take he)
theorem okShort {l : List En} {wd : Int} (h : Ok l wd) : Short l := fun e he => by
  obtain ⟨i, hi, rfl⟩ := List.mem_iff_getElem.1 he
  have h1 := (keyE_zero.1 (h.2 i hi).1).2
  have h2 := (h.2 i hi).2.1
  have h3 := h.1.2
  exact ⟨h1, by omega⟩
theorem liShort {l : List En} (h : liB l = true) : Short l := by
  cases l with
  | nil => exact fun e he => absurd he (by simp)
  | cons e l => exact okShort (okB_true.1 h)
end Go.Proofs.Ytopabadnbelegaa.S
