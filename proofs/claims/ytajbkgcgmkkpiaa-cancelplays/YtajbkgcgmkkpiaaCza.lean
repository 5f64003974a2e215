/- CancelPlays: plays; opens. -/
import Derived.Test.YtajbkgcgmkkpiaaCz0
import Derived.Test.YtajbkgcgmkkpiaaCz1
import Derived.Test.YtajbkgcgmkkpiaaCz2
import Derived.Test.YtajbkgcgmkkpiaaCz3
import Derived.Test.YtajbkgcgmkkpiaaCz4
import Derived.Test.YtajbkgcgmkkpiaaCz5
namespace Go.Proofs.Ytajbkgcgmkkpiaa.C
open Go.RowKit Go.Lib
/-- the desk at the head of a step -/
def DH (W wr : World) (db n : Nat) : Prop := ∃ (G : Geo) (Z : Nat → Dy) (ao bo : Option Addr) (ca cb na : Nat), DM W wr db G Z n (allL G n) na (refF G.up (yZ Z) n) n ao bo ca cb
section
variable {W wr : World} {db n : Nat}
theorem kPlays (h : DH W wr db n) (hn : n < 5870000000000) (kd on why : Int) :
    Calls Try.prog 11 #[.pointer (some ⟨db, 0, none⟩), .agg #[.int .i64 kd, .int .i64 on, .int .i64 why]] wr fun e w' => e = .returned (.bool true) ∧ ∃ n', n' ≤ n + 1 ∧ DH W w' db n' := by
  obtain ⟨G, Z, ao, bo, ca, cb, na, h⟩ := h
  by_cases h1 : kd = 1
  · subst h1
    exact (kPlay1 h hn on why).mono fun e w' ⟨h1, G', Z', ao', bo', ca', cb', h2⟩ => ⟨h1, n + 1, Nat.le_refl _, G', Z', ao', bo', ca', cb', _, h2⟩
  by_cases h2 : kd = 2
  · subst h2
    exact (kPlay2 h hn on why).mono fun e w' ⟨h1, G', Z', ao', bo', ca', cb', h2⟩ => ⟨h1, n + 1, Nat.le_refl _, G', Z', ao', bo', ca', cb', _, h2⟩
  by_cases h3 : kd = 3
  · subst h3
    exact (kPlay3 h hn on why).mono fun e w' ⟨h1, Z', h2⟩ => ⟨h1, n, Nat.le_succ _, G, Z', ao, bo, ca, cb, na, h2⟩
  by_cases h4 : kd = 4
  · subst h4
    exact (kPlay4 h hn on why).mono fun e w' ⟨h1, Z', h2⟩ => ⟨h1, n, Nat.le_succ _, G, Z', ao, bo, ca, cb, na, h2⟩
  by_cases h5 : kd = 5
  · subst h5
    exact (kPlay5 h hn on why).mono fun e w' ⟨h1, Z', h2⟩ => ⟨h1, n, Nat.le_succ _, G, Z', ao, bo, ca, cb, na, h2⟩
  exact (kPlay0 h hn kd h1 h2 h3 h4 h5 on why).mono fun e w' ⟨h1, Z', h2⟩ => ⟨h1, n, Nat.le_succ _, G, Z', ao, bo, ca, cb, na, h2⟩
theorem opened (W : World) : DM W ((W.alloc (.cells #[.pointer none] 34)).alloc (.cells #[.slice (some ⟨W.heap.size, 0, none⟩) 1 1, .slice none 0 0] 33)) (W.heap.size + 1) ⟨fun _ => 0, fun _ => 0, fun _ => 0, fun _ => 0, fun _ => 0⟩ (fun _ => dy0) 0 (allL ⟨fun _ => 0, fun _ => 0, fun _ => 0, fun _ => 0, fun _ => 0⟩ 0) 1 (refF (fun _ => 0) (yZ fun _ => dy0) 0) 0 (some ⟨W.heap.size, 0, none⟩) none 1 0 := by
  have hb : Below W.heap.size W ((W.alloc (.cells #[.pointer none] 34)).alloc (.cells #[.slice (some ⟨W.heap.size, 0, none⟩) 1 1, .slice none 0 0] 33)) := ((Below.refl _ _).alloc (Nat.le_refl _) _).alloc (by simp) _
  refine ⟨⟨⟨Nat.le_refl _, fun j hj => absurd hj (by omega), fun j hj => absurd hj (by omega), fun j hj => absurd hj (by omega), fun j hj => absurd hj (by omega), fun i j hi => absurd hi (by omega), fun i j hi => absurd hi (by omega), fun i j hi => absurd hi (by omega), fun j hj => absurd hj (by omega), fun j hj => absurd hj (by omega)⟩, fun j hj => absurd hj (by omega)⟩, ⟨fun j hj => absurd hj (by omega), fun j hj => absurd hj (by omega), fun j hj => absurd hj (by omega), fun j hj => absurd hj (by omega), fun j hj => absurd hj (by omega)⟩, ?_, S.Rec.Own.none _ _, ?_, rfl, rfl, by omega, hb⟩
  · exact ⟨rfl, .inr ⟨W.heap.size, 1, #[.pointer none], rfl, Nat.le_refl _, heapOld _ (heap_alloc_new W _), Nat.le_refl _, by decide, rfl, rfl⟩⟩
  · have := heap_alloc_new (W.alloc (.cells #[.pointer none] 34)) (.cells #[.slice (some ⟨W.heap.size, 0, none⟩) 1 1, .slice none 0 0] 33)
    rw [World.size_alloc] at this
    exact this
theorem kOpens (W : World) : Calls Try.prog 10 #[] W fun e w' => e = .returned (.pointer (some ⟨W.heap.size + 1, 0, none⟩)) ∧ DH W w' (W.heap.size + 1) 0 := by
  have HO := hide (opened W)
  go_enter Try.func10, Try.ntmps10
  go_wp2
  go_ret
  exact ⟨by simp, _, _, _, _, _, _, _, unhide HO⟩
end
end Go.Proofs.Ytajbkgcgmkkpiaa.C
