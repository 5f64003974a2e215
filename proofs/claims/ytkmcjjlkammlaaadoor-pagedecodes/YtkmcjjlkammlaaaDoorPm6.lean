/- Lent bytes, one turned. -/
import Derived.Test.YtkmcjjlkammlaaaDoorPl6
import Derived.Test.YtkmcjjlkammlaaaDoorPq
import Derived.Laws.BitsAllLaws
namespace Go.Proofs.YtkmcjjlkammlaaaDoor
open Go.RowKit

theorem BR.set {w u : World} {g cap : Nat} {bs : List UInt8} (h : BR w u g cap bs) (k : Nat) (y : UInt8) : BR w (u.setCell ⟨g, k, none⟩ (.int .u8 (y.toNat : Int))) g cap (bs.set k y) := by
  obtain ⟨cur, fr, h1, h2, h3, h4⟩ := h.row
  refine ⟨⟨cur.setIfInBounds k (.int .u8 (y.toNat : Int)), fr, heapCell_same h1 _ _, by simpa using h2, ?_, fun j hj => ?_⟩, h.ge, by simpa using h.le, h.max, ?_⟩
  · rw [List.length_set, Array.toList_setIfInBounds, List.take_set, h3]
    simp [Lib.byteCells, List.map_set]
  · have := h4 j hj
    simp only [World.frozen?, h1] at this
    simp only [World.frozen?, heapCell_same h1 k (.int .u8 (y.toNat : Int))]
    exact this
  · exact h.bel.trans ⟨rfl, rfl, rfl, by simp [World.setCell], fun q hq => Deep.blk_setCell_other u ⟨g, k, none⟩ _ q (fun e => by have h5 : q = g := e; have := h.ge; omega)⟩
theorem BR.liesB {w u : World} {g cap : Nat} {bs : List UInt8} (h : BR w u g cap bs) : LiesB u (some ⟨g, 0, none⟩) bs := h.lies
theorem xor_one (x : UInt8) : ∃ y : UInt8, bits .xor .u8 (x.toNat : Int) 1 = (y.toNat : Int) := by
  have hx := x.toNat_lt
  have hl : x.toNat ^^^ 1 < 2 ^ 8 := Nat.xor_lt_two_pow hx (by decide)
  exact ⟨UInt8.ofNat (x.toNat ^^^ 1), by
    rw [show (1 : Int) = ((1 : Nat) : Int) from rfl, u8_xor_nat _ _ hx (by decide), UInt8.toNat_ofNat', Nat.mod_eq_of_lt hl]⟩
end Go.Proofs.YtkmcjjlkammlaaaDoor
