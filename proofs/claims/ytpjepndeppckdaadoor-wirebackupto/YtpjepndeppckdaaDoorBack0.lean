/- Taking an item as it was put. -/
import Derived.Test.YtpjepndeppckdaaDoorPutW
namespace Go.Proofs.YtpjepndeppckdaaDoor
open Go.RowKit Go.Lib

/-- the same float, bit by bit; every NaN is like every other one -/
def sameB (a b : Nat) : Bool := (isNan a && isNan b) || ((a : Int) == (b : Int))
theorem same_walk (a b : Nat) (w : World) : Calls Tryd.prog 49 #[.float .f64 a, .float .f64 b] w fun e w' => e = .returned (.bool (sameB a b)) ∧ w' = w := by
  unfold sameB
  by_cases ha : isNan a = true
  · by_cases hb : isNan b = true
    · have hs : ((isNan a && isNan b) || ((a : Int) == (b : Int))) = true := by rw [ha, hb]; rfl
      rw [hs]
      unfold isNan at ha hb
      clear hs
      go_enter Tryd.func49, Tryd.ntmps49
      go_wp2
      go_ret
      exact ⟨rfl, rfl⟩
    · have hb : isNan b = false := by simpa using hb
      have hs : ((isNan a && isNan b) || ((a : Int) == (b : Int))) = ((a : Int) == (b : Int)) := by rw [ha, hb]; rfl
      rw [hs]
      unfold isNan at ha hb
      clear hs
      go_enter Tryd.func49, Tryd.ntmps49
      go_wp2
      go_ret
      exact ⟨rfl, rfl⟩
  · have ha : isNan a = false := by simpa using ha
    have hs : ((isNan a && isNan b) || ((a : Int) == (b : Int))) = ((a : Int) == (b : Int)) := by rw [ha]; rfl
    rw [hs]
    unfold isNan at ha
    clear hs
    go_enter Tryd.func49, Tryd.ntmps49
    go_wp2
    go_ret
    exact ⟨rfl, rfl⟩
/-- what is left behind -/
def Bk (w w' : World) (a B : Nat) (s : ByteArray) (p : Nat) (e : Int) : Prop := Rd w' a s p e ∧ Below B w w'
theorem bk_close {w w1 : World} {o : Obj} {a B p : Nat} {s : ByteArray} {e : Int} (hB : B ≤ w.heap.size) (hBa : B ≤ a) (h : Rt (w.alloc o).drew w1 a s p e) : Bk w w1 a B s p e :=
  ⟨h.1, ((Below.refl _ _).alloc hB _).trans ((Rt.ofDrew h).below (by simp; omega) hBa)⟩
theorem box_cell {w w1 : World} {cs : Array Value} {ty : TypeId} {a p : Nat} {s : ByteArray} {e : Int} (ha : a < w.heap.size) (h : Rt (w.alloc (.cells cs ty)).drew w1 a s p e) (i : Nat) : w1.cell? ⟨w.heap.size, i, none⟩ = cs[i]? := by
  rw [h.2.cell (p := ⟨w.heap.size, i, none⟩) (by simp) (by show w.heap.size ≠ a; omega) (by show w.heap.size ≠ a; omega)]
  show (w.alloc (.cells cs ty)).cell? _ = _
  rw [World.cell?_alloc_new]
end Go.Proofs.YtpjepndeppckdaaDoor
