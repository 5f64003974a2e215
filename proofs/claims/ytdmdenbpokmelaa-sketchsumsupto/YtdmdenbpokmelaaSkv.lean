/- Sketches: Sums, of any number of cells. -/
import Derived.Test.YtdmdenbpokmelaaSku
namespace Go.Proofs.Ytdmdenbpokmelaa.K
open Go.RowKit Go.Lib
open Go.Proofs.Ytdmdenbpokmelaa.S (En El RE)
theorem sums16_walk (cs : Int) (l m : List En) (ao bo : Option Addr) (q r cl cm : Nat) (u : World) (hl : El u l ao q cl) (hm : El u m bo r cm) (hq : q ≤ 1048576) (hr : r ≤ 1048576) (hls : ∀ e ∈ l, e.1.size ≤ 1048576 ∧ e.2.size ≤ 1048576) (hms : ∀ e ∈ m, e.1.size ≤ 1048576 ∧ e.2.size ≤ 1048576) :
    Calls Try.prog 5 #[.slice ao q cl, .slice bo r cm, .int .i64 cs] u fun e u' => e = .returned (.bool true) ∧ Below u.heap.size u u' := by
  obtain ⟨hl, rfl⟩ := hl
  obtain ⟨hm, rfl⟩ := hm
  by_cases hc : 3 ≤ cs ∧ cs ≤ 256
  · exact sums16_core cs.toNat (by omega) (by omega) cs (.inl (by omega)) l m ao bo cl cm u hl hm hq hr hls hms
  · exact sums16_core 30 (by omega) (by omega) cs (.inr ⟨by omega, rfl⟩) l m ao bo cl cm u hl hm hq hr hls hms
end Go.Proofs.Ytdmdenbpokmelaa.K
