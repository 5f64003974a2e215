/- Copies of what came in. -/
import Derived.Test.YtfdibmbffmgikaaKp
import Derived.Laws.IdiomCopy
namespace Go.Proofs.Ytfdibmbffmgikaa
open Go.RowKit Go.Lib

theorem append_nothing {P : Program} (u : World) (t ty e : TypeId) {i : TypeInfo} (ht : P.underlying t = some (.slice e)) (hi : P.info? e = some i) (g n cap c : Nat) (ao : Option Addr) (hn : n ≤ cap) : (Builtin.append_ #[t, t] ty #[.slice (some ⟨g, 0, none⟩) n cap, .slice ao 0 c]).run P u = .ok (.slice (some ⟨g, 0, none⟩) n cap) u := by
  cases ao with
  | none => simp [Builtin.append_, run_underlying ht, sizeOf, typeInfo, hi, Builtin.lenOf, hn, Builtin.firstCells, storeCells]
  | some a => exact run_append_room_cells (P := P) u t ty e i ht hi g 0 n cap a 0 c [] (by simp) (fun j x hx => by simp at hx) (fun x hx => by simp at hx) hn (fun j hj => absurd hj (Nat.not_lt_zero _)) (fun j hj => absurd hj (Nat.not_lt_zero _))
def sv (ls : List ByteArray) : List Value := ls.map Value.string
theorem copyTexts (u : World) (B : Nat) (ls : List ByteArray) (ao : Option Addr) (cap : Nat) (h : Tb u B ao ls) (hn : ls.length ≤ 1048576) :
    ∃ ao' cap' W', (Builtin.append_ #[36, 36] 36 #[.slice (some ⟨u.heap.size, 0, none⟩) 0 0, .slice ao ls.length cap]).run Try.prog (u.alloc (.cells #[] 9)) = .ok (.slice ao' ls.length cap') W' ∧ Ts W' ao' ls ∧ Below u.heap.size u W' := by
  obtain ⟨i0, hi, hz0, hz1, hz2⟩ := info_parts infoStr
  have hb0 : Below u.heap.size u (u.alloc (.cells #[] 9)) := (Below.refl _ _).alloc (Nat.le_refl _) _
  by_cases h0 : 0 < ls.length
  · obtain ⟨g, o, rfl, hg, hc⟩ := h h0
    have hown : (u.alloc (.cells #[] 9)).ownsRow u.heap.size 9 1 (.slice (some ⟨u.heap.size, 0, none⟩) 0 0) 0 [] := World.ownsRow_made u #[] 0 (Nat.le_refl _) (by decide) rfl
    obtain ⟨v', W', hr, ho, hg', hnw⟩ := run_append_own' (P := Try.prog) (u.alloc (.cells #[] 9)) u.heap.size 36 36 9 i0 (.string .empty) 1 16 Try.underlying36 hi hz0 hz1 hz2 rfl (by decide) _ 0 [] hown ⟨g, o, none⟩ ls.length cap (sv ls) (by simp [sv]) (fun j x hx => by
      have hj : j < ls.length := by have := (List.getElem?_eq_some_iff.1 hx).1; simpa [sv] using this
      have := hc j hj
      rw [Addr.add_mid, World.cell?_alloc_lt _ _ _ (World.block_lt_of_cell? u _ this), this, ← hx]
      simp [sv, hj]) (fun x hx => by obtain ⟨s, _, rfl⟩ := List.mem_map.1 hx; rfl) (by simp only [maxLen]; omega) (by omega) (by simp)
    rw [Nat.zero_add, List.nil_append] at ho
    have hbel : Below u.heap.size u W' := hb0.grown hg' hb0.size (fun k e => by simp [Value.ownBlock] at e; omega)
    rcases ho.2 with ⟨_, h2⟩ | ⟨g', cap', cur, rfl, h1, h2, h3, h4, h5, h6⟩
    · omega
    · refine ⟨_, _, W', hr, fun _ => ⟨g', 0, rfl, fun j hj => ?_⟩, hbel⟩
      rw [Nat.zero_add, cell_of_row W' g' j _ _ _ h2]
      have : (sv ls)[j]? = some (.string ls[j]) := by simp [sv, hj]
      rw [← h6, List.getElem?_take_of_lt (by omega), Array.getElem?_toList] at this
      exact this
  · have hz : ls.length = 0 := by omega
    rw [hz]
    exact ⟨_, _, _, append_nothing _ _ _ _ Try.underlying36 hi _ 0 0 cap ao (Nat.le_refl _), fun h => by omega, hb0⟩
end Go.Proofs.Ytfdibmbffmgikaa
