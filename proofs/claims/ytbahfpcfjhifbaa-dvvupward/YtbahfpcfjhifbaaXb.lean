/- Dots in memory. -/
import Derived.Test.YtbahfpcfjhifbaaXa
namespace Go.Proofs.Ytbahfpcfjhifbaa
open Go.RowKit

def dcs (d : Nat × Nat) : List Value := [.int .u32 (d.1 : Int), .int .u64 (d.2 : Int)]
def flatD (l : List (Nat × Nat)) : List Value := l.flatMap dcs
theorem flatD_len (l : List (Nat × Nat)) : (flatD l).length = l.length * 2 := by
  induction l with
  | nil => rfl
  | cons c l ih => simp [flatD, dcs] at ih ⊢; omega
theorem flatD_app (a b : List (Nat × Nat)) : flatD (a ++ b) = flatD a ++ flatD b := by simp [flatD]
theorem flatD_one (l : List (Nat × Nat)) : ∀ v ∈ flatD l, v.oneCell' = true := by
  intro v hv
  obtain ⟨d, _, h⟩ := List.mem_flatMap.1 hv
  simp only [dcs, List.mem_cons, List.not_mem_nil, or_false] at h
  rcases h with rfl | rfl <;> rfl
theorem flatD_get : ∀ (l : List (Nat × Nat)) (i : Nat) (hi : i < l.length), (flatD l)[i * 2]? = some (.int .u32 (l[i].1 : Int)) ∧ (flatD l)[i * 2 + 1]? = some (.int .u64 (l[i].2 : Int))
  | [], _, hi => by simp at hi
  | c :: l, 0, _ => by simp [flatD, dcs]
  | c :: l, i + 1, hi => by
    have := flatD_get l i (by simpa using hi)
    have e : flatD (c :: l) = .int .u32 (c.1 : Int) :: .int .u64 (c.2 : Int) :: flatD l := rfl
    rw [e, show (i + 1) * 2 = i * 2 + 1 + 1 by omega, show i * 2 + 1 + 1 + 1 = i * 2 + 1 + 1 + 1 from rfl]
    simpa using this
/-- cells that lie somewhere -/
def Lies (w : World) (ao : Option Addr) (xs : List Value) : Prop := 0 < xs.length → ∃ g o, ao = some ⟨g, o, none⟩ ∧ w.rangeAt g o xs
theorem Lies.below {w w' : World} {ao : Option Addr} {xs : List Value} (h : Lies w ao xs) (hb : Below w.heap.size w w') : Lies w' ao xs := fun h0 => by
  obtain ⟨g, o, h1, h2⟩ := h h0
  exact ⟨g, o, h1, fun j v hv => (hb.cell (p := ⟨g, o + j, none⟩) (World.block_lt_of_cell? w _ (h2 j v hv))).trans (h2 j v hv)⟩
theorem Lies.nil (w : World) (ao : Option Addr) : Lies w ao [] := fun h => absurd h (by simp)
theorem Lies.drewN {w : World} {ao : Option Addr} {xs : List Value} (h : Lies w ao xs) (n : Nat) : Lies (w.drewN n) ao xs := h
theorem Lies.pre {w : World} {ao : Option Addr} {xs ys : List Value} (h : Lies w ao (xs ++ ys)) : Lies w ao xs := fun h0 => by
  obtain ⟨g, o, e, hr⟩ := h (by rw [List.length_append]; omega)
  exact ⟨g, o, e, fun j v hv => hr j v (by rw [List.getElem?_append_left (List.getElem?_eq_some_iff.1 hv).1]; exact hv)⟩
theorem box_below {W u : World} {N : Nat} {o : Obj} (h : W.heap[N]? = some o) (hb : Below W.heap.size W u) : u.heap[N]? = some o := (hb.block N (Array.getElem?_eq_some_iff.1 h).1).trans h
theorem sizeN {t n : Nat} (h : (Try.prog.info? t).map (·.size) = some n) (W : World) : (Go.sizeOf t).run Try.prog W = .ok n W := by
  cases hq : Try.prog.info? t with
  | none => simp [hq] at h
  | some i => simp only [hq, Option.map_some, Option.some.injEq] at h; simp [Go.sizeOf, typeInfo, hq, h]
theorem ixD (g o n c i : Nat) (hi : i < n) (W : World) : (Instr.indexAt 22 (.slice (some ⟨g, o, none⟩) n c) (.int .i64 (i : Int))).run Try.prog W = .ok (.pointer (some ⟨g, o + i * 2, none⟩)) W := by
  have he : Try.prog.elem 22 = 43 := by kernel_rfl
  rw [run_indexAt_slice W 22 _ _ _ _ _ (by rw [he]; kernel_rfl), if_pos ⟨by omega, by omega⟩, he, sizeN (n := 2) (by kernel_rfl)]
  simp only [Result.andThen_ok, Int.toNat_natCast, Addr.add_mid]
/-- the i-th dot in memory -/
theorem Lies.dt {w : World} {ao : Option Addr} {l : List (Nat × Nat)} (h : Lies w ao (flatD l)) {i : Nat} (hi : i < l.length) : ∃ g o, ao = some ⟨g, o, none⟩ ∧ w.cell? ⟨g, o + i * 2, none⟩ = some (.int .u32 (l[i].1 : Int)) ∧ w.cell? ⟨g, o + i * 2 + 1, none⟩ = some (.int .u64 (l[i].2 : Int)) := by
  obtain ⟨g, o, h1, h2⟩ := h (by rw [flatD_len]; omega)
  have := flatD_get l i hi
  exact ⟨g, o, h1, h2 _ _ this.1, h2 _ _ this.2⟩
/-- numbers that dots may have -/
def Fits (l : List (Nat × Nat)) : Prop := ∀ d ∈ l, d.1 < 4294967296 ∧ d.2 < 18446744073709551616
/-- dots in memory -/
structure DAt (w : World) (l : List (Nat × Nat)) (ao : Option Addr) : Prop where
  lies : Lies w ao (flatD l)
  fits : Fits l
  len : l.length ≤ 140737488355328
theorem DAt.below {w w' : World} {l : List (Nat × Nat)} {ao : Option Addr} (h : DAt w l ao) (hb : Below w.heap.size w w') : DAt w' l ao := ⟨h.lies.below hb, h.fits, h.len⟩
end Go.Proofs.Ytbahfpcfjhifbaa
