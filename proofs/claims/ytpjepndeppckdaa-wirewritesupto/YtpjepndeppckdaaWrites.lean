/- Two writers, and what they should hold. -/
import Derived.Test.YtpjepndeppckdaaWPut
import Derived.Deep.RegionHeld3
namespace Go.Proofs.Ytpjepndeppckdaa
open Go.RowKit Go.Lib

/-- how much a list of items weighs -/
def wt : List It → Nat
  | [] => 0
  | x :: l => x.s.size + 6 + wt l
theorem wt_append (a b : List It) : wt (a ++ b) = wt a + wt b := by
  induction a with
  | nil => simp [wt]
  | cons x a ih => simp only [List.cons_append, wt, ih]; omega
theorem wt_take (l : List It) (k : Nat) (x : It) (h : l[k]? = some x) : wt (l.take (k + 1)) = wt (l.take k) + (x.s.size + 6) ∧ wt (l.take (k + 1)) ≤ wt l := by
  obtain ⟨hk, rfl⟩ := List.getElem?_eq_some_iff.1 h
  have h1 : l.take (k + 1) = l.take k ++ [l[k]] := List.take_succ_eq_append_getElem hk
  have h2 := wt_append (l.take (k + 1)) (l.drop (k + 1))
  rw [List.take_append_drop] at h2
  refine ⟨?_, by omega⟩
  rw [h1, wt_append]; simp [wt]
/-- a list of bools at a slice -/
def Bools (w : World) (bo : Option Addr) (n : Nat) : Prop :=
  n ≤ 9223372036854775807 ∧ (n = 0 ∨ ∃ b off, ∃ f : Nat → Bool, bo = some ⟨b, off, none⟩ ∧ b < w.heap.size ∧ ∀ j, j < n → w.cell? ⟨b, off + j, none⟩ = some (.bool (f j)))
/-- two writers, the row that holds them, and the row of what they should tell -/
structure WW (w wr : World) (r0 r1 : Nat) (bs0 bs1 : List UInt8) : Prop where
  w0 : Wr wr w.heap.size r0 bs0
  w1 : Wr wr (w.heap.size + 1) r1 bs1
  x0 : wr.cell? ⟨w.heap.size + 1 + 1, 0, none⟩ = some (.pointer (some ⟨w.heap.size, 0, none⟩))
  x1 : wr.cell? ⟨w.heap.size + 1 + 1, 1, none⟩ = some (.pointer (some ⟨w.heap.size + 1, 0, none⟩))
  y0 : wr.cell? ⟨w.heap.size + 1 + 1 + 1, 0, none⟩ = some (.string ⟨bs0.toArray⟩)
  y1 : wr.cell? ⟨w.heap.size + 1 + 1 + 1, 1, none⟩ = some (.string ⟨bs1.toArray⟩)
  f0 : wr.frozen? ⟨w.heap.size + 1 + 1 + 1, 0, none⟩ = false
  f1 : wr.frozen? ⟨w.heap.size + 1 + 1 + 1, 1, none⟩ = false
  room : w.heap.size + 4 ≤ wr.heap.size
  q0 : r0 = w.heap.size ∨ w.heap.size + 4 ≤ r0
  q1 : r1 = w.heap.size + 1 ∨ w.heap.size + 4 ≤ r1
  ne : r0 ≠ r1
  bel : Below w.heap.size w wr
theorem WW.start (w : World) (ta tb tc : TypeId) :
    WW w ((((w.alloc (.cells #[.slice none 0 0] ta)).alloc (.cells #[.slice none 0 0] ta)).alloc (.cells #[.pointer (some ⟨w.heap.size, 0, none⟩), .pointer (some ⟨w.heap.size + 1, 0, none⟩)] tb)).alloc (.cells #[.string ⟨#[]⟩, .string ⟨#[]⟩] tc)) w.heap.size (w.heap.size + 1) [] [] := by
  have h1 := Wr.new (w.alloc (.cells #[.slice none 0 0] ta)) ta
  rw [World.size_alloc] at h1
  refine ⟨(((Wr.new w ta).alloc _).alloc _).alloc _, (h1.alloc _).alloc _, by simp [go_sem], by simp [go_sem], by simp [go_sem], by simp [go_sem], ?_, ?_, by simp, .inl rfl, .inl rfl, by omega, ?_⟩
  · rw [frozen?_alloc_cells]; simp [World.frozen?]
  · rw [frozen?_alloc_cells]; simp [World.frozen?]
  · exact (((((Below.refl _ _).alloc (Nat.le_refl _) _).alloc (by simp) _).alloc (by simp; omega) _).alloc (by simp; omega) _)
/-- a world with the same blocks, and more -/
theorem WW.below {w wr w' : World} {r0 r1 : Nat} {bs0 bs1 : List UInt8} (h : WW w wr r0 r1 bs0 bs1) (b : Below wr.heap.size wr w') : WW w w' r0 r1 bs0 bs1 := by
  have hr := h.room
  have hs := b.size
  refine ⟨h.w0.same b.size (b.block _ (by omega)) (b.block _ h.w0.2.1), h.w1.same b.size (b.block _ (by omega)) (b.block _ h.w1.2.1), (b.cell (p := ⟨_, _, _⟩) (by show w.heap.size + 1 + 1 < _; omega)).trans h.x0, (b.cell (p := ⟨_, _, _⟩) (by show w.heap.size + 1 + 1 < _; omega)).trans h.x1, (b.cell (p := ⟨_, _, _⟩) (by show w.heap.size + 1 + 1 + 1 < _; omega)).trans h.y0, (b.cell (p := ⟨_, _, _⟩) (by show w.heap.size + 1 + 1 + 1 < _; omega)).trans h.y1, ?_, ?_, by omega, h.q0, h.q1, h.ne, h.bel.trans (b.mono (by omega))⟩
  · rw [World.frozen?_of_block (w := wr) (b.block _ (by show w.heap.size + 1 + 1 + 1 < _; omega))]; exact h.f0
  · rw [World.frozen?_of_block (w := wr) (b.block _ (by show w.heap.size + 1 + 1 + 1 < _; omega))]; exact h.f1
theorem Wr.set {w : World} {a r : Nat} {bs : List UInt8} (h : Wr w a r bs) {b : Nat} (h1 : b ≠ a) (h2 : b ≠ r) (i : Nat) (v : Value) : Wr (w.setCell ⟨b, i, none⟩ v) a r bs :=
  h.same (by simp) (Deep.blk_setCell_other w ⟨b, i, none⟩ v a (fun e => h1 e.symm)) (Deep.blk_setCell_other w ⟨b, i, none⟩ v r (fun e => h2 e.symm))
theorem Wr.drew' {w : World} {a r : Nat} {bs : List UInt8} (h : Wr w a r bs) : Wr w.drew a r bs := h.same (Nat.le_refl _) rfl rfl
theorem Below.ofDrew {B : Nat} {a w : World} (h : Below B a.drew w) : Below B a w := ⟨h.os, h.tape, h.output, h.size, h.block⟩
theorem WW.drewN {w wr : World} {r0 r1 : Nat} {bs0 bs1 : List UInt8} (h : WW w wr r0 r1 bs0 bs1) (n : Nat) : WW w (wr.drewN n) r0 r1 bs0 bs1 :=
  h.below ⟨rfl, rfl, rfl, Nat.le_refl _, fun _ _ => rfl⟩
theorem WW.step0 {w w2 w4 : World} {r0 r1 r' : Nat} {bs0 bs1 f : List UInt8} (h : WW w w2 r0 r1 bs0 bs1) (p : Put (w2.setCell ⟨w.heap.size + 1 + 1 + 1, 0, none⟩ (.string ⟨(bs0 ++ f).toArray⟩)).drew w4 w.heap.size r0 r' (bs0 ++ f)) : WW w w4 r' r1 (bs0 ++ f) bs1 := by
  obtain ⟨p1, p2, u⟩ := p
  have hr := h.room
  have hq0 := h.q0
  have hq1 := h.q1
  have hne := h.ne
  have hsz : (w2.setCell ⟨w.heap.size + 1 + 1 + 1, 0, none⟩ (.string ⟨(bs0 ++ f).toArray⟩)).drew.heap.size = w2.heap.size := by show (w2.setCell ⟨w.heap.size + 1 + 1 + 1, 0, none⟩ (.string ⟨(bs0 ++ f).toArray⟩)).heap.size = _; simp
  have hlt := h.w1.2.1
  rw [hsz] at p2
  have hother : Wr (w2.setCell ⟨w.heap.size + 1 + 1 + 1, 0, none⟩ (.string ⟨(bs0 ++ f).toArray⟩)).drew (w.heap.size + 1) r1 bs1 := (h.w1.set (by omega) (by omega) _ _).drew'
  have hs := u.size
  rw [hsz] at hs
  have hc : ∀ (c : Addr), c.block < w2.heap.size → c.block ≠ w.heap.size → c.block ≠ r0 → w4.cell? c = (w2.setCell ⟨w.heap.size + 1 + 1 + 1, 0, none⟩ (.string ⟨(bs0 ++ f).toArray⟩)).cell? c := fun c h1 h2 h3 => u.cell (by rw [hsz]; exact h1) h2 h3
  have hf : ∀ (c : Addr), c.block < w2.heap.size → c.block ≠ w.heap.size → c.block ≠ r0 → w4.frozen? c = (w2.setCell ⟨w.heap.size + 1 + 1 + 1, 0, none⟩ (.string ⟨(bs0 ++ f).toArray⟩)).frozen? c := fun c h1 h2 h3 => u.frozen (by rw [hsz]; exact h1) h2 h3
  have hw : Wr w4 (w.heap.size + 1) r1 bs1 := hother.upd u (by omega) (by omega) (by omega) (by omega)
  have hb : Below w.heap.size w w4 := (below_set h.bel (p := ⟨w.heap.size + 1 + 1 + 1, 0, none⟩) (by show w.heap.size ≤ w.heap.size + 1 + 1 + 1; omega) _).trans (Below.ofDrew (u.below (by rw [hsz]; omega) (by omega) (by omega)))
  refine ⟨p1, hw, ?_, ?_, ?_, ?_, ?_, ?_, by omega, by omega, hq1, by omega, hb⟩
  · rw [hc ⟨w.heap.size + 1 + 1, 0, none⟩ (by show w.heap.size + 1 + 1 < _; omega) (by show w.heap.size + 1 + 1 ≠ _; omega) (by show w.heap.size + 1 + 1 ≠ _; omega), World.cell?_setCell_other _ _ _ _ (by simp)]; exact h.x0
  · rw [hc ⟨w.heap.size + 1 + 1, 1, none⟩ (by show w.heap.size + 1 + 1 < _; omega) (by show w.heap.size + 1 + 1 ≠ _; omega) (by show w.heap.size + 1 + 1 ≠ _; omega), World.cell?_setCell_other _ _ _ _ (by simp)]; exact h.x1
  · rw [hc ⟨w.heap.size + 1 + 1 + 1, 0, none⟩ (by show w.heap.size + 1 + 1 + 1 < _; omega) (by show w.heap.size + 1 + 1 + 1 ≠ _; omega) (by show w.heap.size + 1 + 1 + 1 ≠ _; omega), World.cell?_setCell_same _ _ _ h.y0]
  · rw [hc ⟨w.heap.size + 1 + 1 + 1, 1, none⟩ (by show w.heap.size + 1 + 1 + 1 < _; omega) (by show w.heap.size + 1 + 1 + 1 ≠ _; omega) (by show w.heap.size + 1 + 1 + 1 ≠ _; omega), World.cell?_setCell_other _ _ _ _ (by simp)]; exact h.y1
  · rw [hf ⟨w.heap.size + 1 + 1 + 1, 0, none⟩ (by show w.heap.size + 1 + 1 + 1 < _; omega) (by show w.heap.size + 1 + 1 + 1 ≠ _; omega) (by show w.heap.size + 1 + 1 + 1 ≠ _; omega)]; simpa using h.f0
  · rw [hf ⟨w.heap.size + 1 + 1 + 1, 1, none⟩ (by show w.heap.size + 1 + 1 + 1 < _; omega) (by show w.heap.size + 1 + 1 + 1 ≠ _; omega) (by show w.heap.size + 1 + 1 + 1 ≠ _; omega)]; simpa using h.f1
theorem WW.step1 {w w2 w4 : World} {r0 r1 r' : Nat} {bs0 bs1 f : List UInt8} (h : WW w w2 r0 r1 bs0 bs1) (p : Put (w2.setCell ⟨w.heap.size + 1 + 1 + 1, 1, none⟩ (.string ⟨(bs1 ++ f).toArray⟩)).drew w4 (w.heap.size + 1) r1 r' (bs1 ++ f)) : WW w w4 r0 r' bs0 (bs1 ++ f) := by
  obtain ⟨p1, p2, u⟩ := p
  have hr := h.room
  have hq0 := h.q0
  have hq1 := h.q1
  have hne := h.ne
  have hsz : (w2.setCell ⟨w.heap.size + 1 + 1 + 1, 1, none⟩ (.string ⟨(bs1 ++ f).toArray⟩)).drew.heap.size = w2.heap.size := by show (w2.setCell ⟨w.heap.size + 1 + 1 + 1, 1, none⟩ (.string ⟨(bs1 ++ f).toArray⟩)).heap.size = _; simp
  have hlt := h.w0.2.1
  rw [hsz] at p2
  have hother : Wr (w2.setCell ⟨w.heap.size + 1 + 1 + 1, 1, none⟩ (.string ⟨(bs1 ++ f).toArray⟩)).drew w.heap.size r0 bs0 := (h.w0.set (by omega) (by omega) _ _).drew'
  have hs := u.size
  rw [hsz] at hs
  have hc : ∀ (c : Addr), c.block < w2.heap.size → c.block ≠ (w.heap.size + 1) → c.block ≠ r1 → w4.cell? c = (w2.setCell ⟨w.heap.size + 1 + 1 + 1, 1, none⟩ (.string ⟨(bs1 ++ f).toArray⟩)).cell? c := fun c h1 h2 h3 => u.cell (by rw [hsz]; exact h1) h2 h3
  have hf : ∀ (c : Addr), c.block < w2.heap.size → c.block ≠ (w.heap.size + 1) → c.block ≠ r1 → w4.frozen? c = (w2.setCell ⟨w.heap.size + 1 + 1 + 1, 1, none⟩ (.string ⟨(bs1 ++ f).toArray⟩)).frozen? c := fun c h1 h2 h3 => u.frozen (by rw [hsz]; exact h1) h2 h3
  have hw : Wr w4 w.heap.size r0 bs0 := hother.upd u (by omega) (by omega) (by omega) (by omega)
  have hb : Below w.heap.size w w4 := (below_set h.bel (p := ⟨w.heap.size + 1 + 1 + 1, 1, none⟩) (by show w.heap.size ≤ w.heap.size + 1 + 1 + 1; omega) _).trans (Below.ofDrew (u.below (by rw [hsz]; omega) (by omega) (by omega)))
  refine ⟨hw, p1, ?_, ?_, ?_, ?_, ?_, ?_, by omega, hq0, by omega, by omega, hb⟩
  · rw [hc ⟨w.heap.size + 1 + 1, 0, none⟩ (by show w.heap.size + 1 + 1 < _; omega) (by show w.heap.size + 1 + 1 ≠ _; omega) (by show w.heap.size + 1 + 1 ≠ _; omega), World.cell?_setCell_other _ _ _ _ (by simp)]; exact h.x0
  · rw [hc ⟨w.heap.size + 1 + 1, 1, none⟩ (by show w.heap.size + 1 + 1 < _; omega) (by show w.heap.size + 1 + 1 ≠ _; omega) (by show w.heap.size + 1 + 1 ≠ _; omega), World.cell?_setCell_other _ _ _ _ (by simp)]; exact h.x1
  · rw [hc ⟨w.heap.size + 1 + 1 + 1, 0, none⟩ (by show w.heap.size + 1 + 1 + 1 < _; omega) (by show w.heap.size + 1 + 1 + 1 ≠ _; omega) (by show w.heap.size + 1 + 1 + 1 ≠ _; omega), World.cell?_setCell_other _ _ _ _ (by simp)]; exact h.y0
  · rw [hc ⟨w.heap.size + 1 + 1 + 1, 1, none⟩ (by show w.heap.size + 1 + 1 + 1 < _; omega) (by show w.heap.size + 1 + 1 + 1 ≠ _; omega) (by show w.heap.size + 1 + 1 + 1 ≠ _; omega), World.cell?_setCell_same _ _ _ h.y1]
  · rw [hf ⟨w.heap.size + 1 + 1 + 1, 0, none⟩ (by show w.heap.size + 1 + 1 + 1 < _; omega) (by show w.heap.size + 1 + 1 + 1 ≠ _; omega) (by show w.heap.size + 1 + 1 + 1 ≠ _; omega)]; simpa using h.f0
  · rw [hf ⟨w.heap.size + 1 + 1 + 1, 1, none⟩ (by show w.heap.size + 1 + 1 + 1 < _; omega) (by show w.heap.size + 1 + 1 + 1 ≠ _; omega) (by show w.heap.size + 1 + 1 + 1 ≠ _; omega)]; simpa using h.f1
end Go.Proofs.Ytpjepndeppckdaa
