/- ObjectNames: the walk. -/
import Derived.Test.YtkcbljmjhlnjpaaQ24
namespace Go.Proofs.Ytkcbljmjhlnjpaa
open Go.RowKit Go.Lib
def L33 : ByteArray := ⟨(List.replicate 33 0).toArray⟩
def c33 : Array Value := madeCells (Value.int .u8 0).cells 33
theorem c33_eq : c33 = (List.replicate 33 (Value.int .u8 0)).toArray := by kernel_rfl
theorem c33_get {j : Nat} (hj : j < 33) : c33[j]? = some (.int .u8 0) := by
  rw [c33_eq, List.getElem?_toArray, List.getElem?_replicate, if_pos hj]
theorem mk33 (W : World) : (Instr.makeSlice 25 (.int .i64 33) (.int .i64 33)).run Try.prog W = .ok (.slice (some ⟨W.heap.size, 0, none⟩) 33 33) (W.alloc (.cells c33 5)) := by
  obtain ⟨i, hi, h2⟩ : ∃ i, Try.prog.info? 5 = some i ∧ i.zero = some (.int .u8 0) ∧ i.size = 1 ∧ i.bytes = 1 := by
    have h : (Try.prog.info? 5).map (fun i => (i.zero, i.size, i.bytes)) = some (some (.int .u8 0), 1, 1) := by kernel_rfl
    obtain ⟨i, hi, h2⟩ := Option.map_eq_some_iff.1 h
    simp only [Prod.mk.injEq] at h2
    exact ⟨i, hi, h2⟩
  have h := run_makeSlice (P := Try.prog) W 25 5 i _ Try.underlying25 hi h2.1 .i64 .i64 33 33 (by decide) (by decide) (by rw [h2.2.1]; decide) (by rw [h2.2.2]; decide) (by decide)
  rw [h, h2.2.1]
  rfl
theorem conv33 (W : World) : (convert 25 9 (.slice (some ⟨W.heap.size, 0, none⟩) 33 33)).run Try.prog (W.alloc (.cells c33 5)) = .ok (.string L33) (W.alloc (.cells c33 5)) := by
  refine run_convert_bytes_back (P := Try.prog) _ 25 9 5 ⟨W.heap.size, 0, none⟩ 33 (List.replicate 33 0) Try.underlying25 Try.underlying5 Try.underlying9 fun j hj => ?_
  have h1 := heap_alloc_new W (.cells c33 5)
  rw [List.length_replicate] at hj
  rw [Addr.add_mid, Nat.zero_add]
  unfold World.cell?
  simp only [h1]
  rw [List.getElem_replicate]
  exact c33_get hj
theorem key0 : keyE ⟨#[]⟩ = 130 := by decide
theorem key33 : keyE L33 = 130 := by decide
theorem key32 : keyE (L33.extract 0 32) = 0 := by decide
set_option maxRecDepth 100000 in
set_option maxHeartbeats 2000000 in
theorem names13_walk (u : World) : Calls Try.prog 3 #[] u fun e u' => e = .returned (.bool true) ∧ Below u.heap.size u u' := by
  have HPL : Hid (∀ W, Calls Try.prog 11 #[.string ⟨#[97]⟩] W fun e W' => e = .returned (.tuple #[.int .i64 2005, .int .i64 0]) ∧ Below W.heap.size W W') := fun W => by
    have h := oPlace kA W
    have hk : keyE kA = 0 := by decide
    rw [hk, if_pos rfl, pl_a] at h
    exact h
  have HK0 := hide (oKey ⟨#[]⟩)
  have HK1 := hide (oKey L33)
  have HK2 := hide (oKey (L33.extract 0 32))
  rw [key0] at HK0
  rw [key33] at HK1
  rw [key32] at HK2
  have hmk := mk33
  have hcv := conv33
  have hsz : L33.size = 33 := by decide
  have hle : (32 : Int) ≤ (L33.size : Int) := by rw [hsz]; decide
  clear hsz
  generalize c33 = cs at *
  generalize L33 = L at *
  go_enter Try.func3, Try.ntmps3
  go_wp2_with (first
    | (go_at_call 11; refine (unhide HPL u).mono ?_; rintro e W1 ⟨rfl, hb⟩; have HB1 := hide hb; clear hb)
    | (go_at_call 12; refine (unhide HK0 _).mono ?_; rintro e W2 ⟨rfl, rfl⟩; clear HK0)
    | (go_at_call 12; refine (unhide HK1 _).mono ?_; rintro e W3 ⟨rfl, rfl⟩; clear HK1)
    | (go_at_call 12; refine (unhide HK2 _).mono ?_; rintro e W4 ⟨rfl, rfl⟩; clear HK2)
    | fail)
  go_ret
  exact ⟨rfl, (unhide HB1).trans (((Below.refl _ _).alloc (Nat.le_refl _) _).mono (unhide HB1).size)⟩
end Go.Proofs.Ytkcbljmjhlnjpaa
