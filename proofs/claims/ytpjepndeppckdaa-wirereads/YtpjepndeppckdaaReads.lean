/- The walk of WireReads. -/
import Derived.Test.YtpjepndeppckdaaTake
import Derived.Deep.RegionHeld3
namespace Go.Proofs.Ytpjepndeppckdaa
open Go.RowKit Go.Lib

/-- two readers of the program and two of the document's, and the rows that hold them -/
structure RW (w wr : World) (s t : ByteArray) (p0 p1 : Nat) (e0 e1 : Int) : Prop where
  r0 : Rd wr w.heap.size s p0 e0
  r1 : Rd wr (w.heap.size + 1) t p1 e1
  m0 : Rd wr (w.heap.size + 1 + 1 + 1) s p0 e0
  m1 : Rd wr (w.heap.size + 1 + 1 + 1 + 1) t p1 e1
  x0 : wr.cell? ⟨w.heap.size + 1 + 1, 0, none⟩ = some (.pointer (some ⟨w.heap.size, 0, none⟩))
  x1 : wr.cell? ⟨w.heap.size + 1 + 1, 1, none⟩ = some (.pointer (some ⟨w.heap.size + 1, 0, none⟩))
  y0 : wr.cell? ⟨w.heap.size + 1 + 1 + 1 + 1 + 1, 0, none⟩ = some (.pointer (some ⟨w.heap.size + 1 + 1 + 1, 0, none⟩))
  y1 : wr.cell? ⟨w.heap.size + 1 + 1 + 1 + 1 + 1, 1, none⟩ = some (.pointer (some ⟨w.heap.size + 1 + 1 + 1 + 1, 0, none⟩))
  room : w.heap.size + 6 ≤ wr.heap.size
  bel : Below w.heap.size w wr
theorem RW.drewN {w wr : World} {s t : ByteArray} {p0 p1 : Nat} {e0 e1 : Int} (h : RW w wr s t p0 p1 e0 e1) (n : Nat) : RW w (wr.drewN n) s t p0 p1 e0 e1 :=
  ⟨h.r0.drewN n, h.r1.drewN n, h.m0.drewN n, h.m1.drewN n, h.x0, h.x1, h.y0, h.y1, h.room, ⟨h.bel.os, h.bel.tape, h.bel.output, h.bel.size, h.bel.block⟩⟩
theorem RW.upd {w wr w' : World} {a b : Nat} (hb : Below w.heap.size w wr) (u : Upd wr w' a b) (ha : w.heap.size ≤ a) (hb' : w.heap.size ≤ b) : Below w.heap.size w w' :=
  ⟨u.os.trans hb.os, u.tape.trans hb.tape, u.output.trans hb.output, Nat.le_trans hb.size u.size, fun k hk => (u.block k (by have := hb.size; omega) (by omega) (by omega)).trans (hb.block k hk)⟩
theorem RW.take0 {w wr w' : World} {s t : ByteArray} {p0 p1 : Nat} {e0 e1 : Int} {q : Nat × Int} (h : RW w wr s t p0 p1 e0 e1) (b : Both wr w' w.heap.size (w.heap.size + 1 + 1 + 1) s q) : RW w w' s t q.1 p1 q.2 e1 := by
  obtain ⟨b1, b2, b3⟩ := b
  have hr := h.room
  refine ⟨b1, h.r1.upd b3 (by omega) (by omega), b2, h.m1.upd b3 (by omega) (by omega), ?_, ?_, ?_, ?_, by have := b3.size; omega, RW.upd h.bel b3 (by omega) (by omega)⟩
  · rw [b3.cell (by show w.heap.size + 1 + 1 < _; omega) (by show w.heap.size + 1 + 1 ≠ _; omega) (by show w.heap.size + 1 + 1 ≠ _; omega)]; exact h.x0
  · rw [b3.cell (by show w.heap.size + 1 + 1 < _; omega) (by show w.heap.size + 1 + 1 ≠ _; omega) (by show w.heap.size + 1 + 1 ≠ _; omega)]; exact h.x1
  · rw [b3.cell (by show w.heap.size + 1 + 1 + 1 + 1 + 1 < _; omega) (by show w.heap.size + 1 + 1 + 1 + 1 + 1 ≠ _; omega) (by show w.heap.size + 1 + 1 + 1 + 1 + 1 ≠ _; omega)]; exact h.y0
  · rw [b3.cell (by show w.heap.size + 1 + 1 + 1 + 1 + 1 < _; omega) (by show w.heap.size + 1 + 1 + 1 + 1 + 1 ≠ _; omega) (by show w.heap.size + 1 + 1 + 1 + 1 + 1 ≠ _; omega)]; exact h.y1
theorem RW.take1 {w wr w' : World} {s t : ByteArray} {p0 p1 : Nat} {e0 e1 : Int} {q : Nat × Int} (h : RW w wr s t p0 p1 e0 e1) (b : Both wr w' (w.heap.size + 1) (w.heap.size + 1 + 1 + 1 + 1) t q) : RW w w' s t p0 q.1 e0 q.2 := by
  obtain ⟨b1, b2, b3⟩ := b
  have hr := h.room
  refine ⟨h.r0.upd b3 (by omega) (by omega), b1, h.m0.upd b3 (by omega) (by omega), b2, ?_, ?_, ?_, ?_, by have := b3.size; omega, RW.upd h.bel b3 (by omega) (by omega)⟩
  · rw [b3.cell (by show w.heap.size + 1 + 1 < _; omega) (by show w.heap.size + 1 + 1 ≠ _; omega) (by show w.heap.size + 1 + 1 ≠ _; omega)]; exact h.x0
  · rw [b3.cell (by show w.heap.size + 1 + 1 < _; omega) (by show w.heap.size + 1 + 1 ≠ _; omega) (by show w.heap.size + 1 + 1 ≠ _; omega)]; exact h.x1
  · rw [b3.cell (by show w.heap.size + 1 + 1 + 1 + 1 + 1 < _; omega) (by show w.heap.size + 1 + 1 + 1 + 1 + 1 ≠ _; omega) (by show w.heap.size + 1 + 1 + 1 + 1 + 1 ≠ _; omega)]; exact h.y0
  · rw [b3.cell (by show w.heap.size + 1 + 1 + 1 + 1 + 1 < _; omega) (by show w.heap.size + 1 + 1 + 1 + 1 + 1 ≠ _; omega) (by show w.heap.size + 1 + 1 + 1 + 1 + 1 ≠ _; omega)]; exact h.y1
theorem RW.start (w : World) (s t : ByteArray) (ta tb tc td : TypeId) (hs : s.size ≤ 140737488355328) (ht : t.size ≤ 140737488355328) :
    RW w ((((((w.alloc (.cells #[.string s, .int .i64 0, .int .i64 0] ta)).alloc (.cells #[.string t, .int .i64 0, .int .i64 0] ta)).alloc (.cells #[.pointer (some ⟨w.heap.size, 0, none⟩), .pointer (some ⟨w.heap.size + 1, 0, none⟩)] tb)).alloc (.cells #[.string s, .int .i64 0, .int .i64 0] tc)).alloc (.cells #[.string t, .int .i64 0, .int .i64 0] tc)).alloc (.cells #[.pointer (some ⟨w.heap.size + 1 + 1 + 1, 0, none⟩), .pointer (some ⟨w.heap.size + 1 + 1 + 1 + 1, 0, none⟩)] td)) s t 0 0 0 0 := by
  have h0 := Rd.new s w ta hs
  have h1 := Rd.new t (w.alloc (.cells #[.string s, .int .i64 0, .int .i64 0] ta)) ta ht
  rw [World.size_alloc] at h1
  refine ⟨((((h0.alloc _).alloc _).alloc _).alloc _).alloc _, (((h1.alloc _).alloc _).alloc _).alloc _, ?_, ?_, by simp [go_sem], by simp [go_sem], by simp [go_sem], by simp [go_sem], by simp, ?_⟩
  · have h2 := Rd.new s (((w.alloc (.cells #[.string s, .int .i64 0, .int .i64 0] ta)).alloc (.cells #[.string t, .int .i64 0, .int .i64 0] ta)).alloc (.cells #[.pointer (some ⟨w.heap.size, 0, none⟩), .pointer (some ⟨w.heap.size + 1, 0, none⟩)] tb)) tc hs
    simp only [World.size_alloc] at h2
    exact (h2.alloc _).alloc _
  · have h3 := Rd.new t ((((w.alloc (.cells #[.string s, .int .i64 0, .int .i64 0] ta)).alloc (.cells #[.string t, .int .i64 0, .int .i64 0] ta)).alloc (.cells #[.pointer (some ⟨w.heap.size, 0, none⟩), .pointer (some ⟨w.heap.size + 1, 0, none⟩)] tb)).alloc (.cells #[.string s, .int .i64 0, .int .i64 0] tc)) tc ht
    simp only [World.size_alloc] at h3
    exact h3.alloc _
  · exact (((((((Below.refl _ _).alloc (Nat.le_refl _) _).alloc (by simp) _).alloc (by simp; omega) _).alloc (by simp; omega) _).alloc (by simp; omega) _).alloc (by simp; omega) _)
end Go.Proofs.Ytpjepndeppckdaa
