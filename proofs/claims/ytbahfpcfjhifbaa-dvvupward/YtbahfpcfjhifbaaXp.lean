/- Vectors: works: what each statement asks first. -/
import Derived.Test.YtbahfpcfjhifbaaXo
import Derived.Test.YtbahfpcfjhifbaaXl
namespace Go.Proofs.Ytbahfpcfjhifbaa
open Go.RowKit
/-- dots laid out anew -/
theorem Dv.lit (W : World) (l : List (Nat × Nat)) (cs : Array Value) (t : TypeId) (n : Nat) (hc : cs.toList = flatD l) (hn : n = l.length) : Dv (W.alloc (.cells cs t)) l (some ⟨W.heap.size, 0, none⟩) n :=
  ⟨fun _ => ⟨_, 0, rfl, fun j v hv => by
    have h1 : (W.alloc (.cells cs t)).heap[W.heap.size]? = some (.cells cs t (0, 0)) := heap_alloc_new _ _
    simp only [World.cell?, h1, Nat.zero_add]
    rw [← hc] at hv
    simpa using hv⟩, by omega, fun e => by cases e⟩
theorem Da.lit (W : World) (l : List (Nat × Nat)) (cs : Array Value) (t : TypeId) (n : Nat) (hc : cs.toList = flatD l) (hn : n = l.length) (hf : Fits l) (hl : l.length ≤ 128) : Da (W.alloc (.cells cs t)) l (some ⟨W.heap.size, 0, none⟩) n := ⟨Dv.lit W l cs t n hc hn, hf, len_da hl⟩
def wA : List (Nat × Nat) := [(1, 2), (3, 1)]
def wB : List (Nat × Nat) := [(1, 1), (2, 300)]
def wM : List (Nat × Nat) := [(1, 2), (2, 300), (3, 1)]
def wS : ByteArray := ⟨#[3, 1, 2, 2, 172, 2, 3, 1]⟩
theorem ok_of {l : List (Nat × Nat)} (h1 : l.length ≤ 64) (h2 : Decidable.decide (l.Pairwise fun x y => x.1 < y.1) = true) (h3 : l.all (fun d => Decidable.decide (1 ≤ d.2 ∧ d.2 ≤ 1099511627776)) = true) : V.Ok l :=
  ⟨⟨show l.Pairwise (fun x y => x.1 < y.1) from of_decide_eq_true h2, fun d hd => by have := List.all_eq_true.1 h3 d hd; simpa using this⟩, h1⟩
theorem okA : V.Ok wA := ok_of (by decide) (by decide) (by decide)
theorem okBb : V.Ok wB := ok_of (by decide) (by decide) (by decide)
theorem okM : V.Ok wM := ok_of (by decide) (by decide) (by decide)
theorem fits_ok {l : List (Nat × Nat)} (h : l.all (fun d => Decidable.decide (d.1 < 4294967296 ∧ d.2 < 18446744073709551616)) = true) : Fits l := fun d hd => by have := List.all_eq_true.1 h d hd; simpa using this
theorem mrgAB : V.mrg wA wB = wM := by simp [V.mrg, V.later, wA, wB, wM]
theorem mrgBA : V.mrg wB wA = wM := by simp [V.mrg, V.later, wA, wB, wM]
theorem mrgAM : V.mrg wA wM = wM := by simp [V.mrg, V.later, wA, wM]
theorem mrgMA : V.mrg wM wA = wM := by simp [V.mrg, V.later, wA, wM]
theorem maxAB : maxV wA wB = (wM, 0) := by
  unfold maxV
  rw [V.okB_true.2 okA, V.okB_true.2 okBb, mrgAB]
  rfl
theorem cmpAM : cmpV wA wM = -1 := by
  unfold cmpV belB
  rw [V.okB_true.2 okA, V.okB_true.2 okM, mrgAM, mrgMA, decide_eq_true rfl, decide_eq_false (show wM ≠ wA by decide)]
  rfl
theorem cmpAB : cmpV wA wB = 2 := by
  unfold cmpV belB
  rw [V.okB_true.2 okA, V.okB_true.2 okBb, mrgAB, mrgBA, decide_eq_false (show wM ≠ wB by decide), decide_eq_false (show wM ≠ wA by decide)]
  rfl
theorem encM : encV wM = (wS, 0) := by
  unfold encV
  rw [V.okB_true.2 okM]
  rfl
theorem tkS : tkV wS 0 0 = (wM, 8, 0) := by kernel_rfl
theorem decS : decV wS = (wM, 0) := by
  have he : takeE wS 0 0 = 0 := by unfold takeE; rw [tkS]; show (if V.okB wM = true then (0 : Int) else _) = 0; rw [V.okB_true.2 okM]; rfl
  have hl : takeL wS 0 0 = wM := by unfold takeL; rw [he, tkS]; rfl
  unfold decV
  rw [he, hl, tkS]
  rfl
end Go.Proofs.Ytbahfpcfjhifbaa
