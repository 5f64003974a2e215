/- What BitmapEach leans on: Put and Take of any number; what a round of a loop over an iterator keeps. -/
import Derived.Test.YtinfmomhbegfhaaDoorBnn
import Derived.Test.YtinfmomhbegfhaaDoorBc
import Derived.Test.YtinfmomhbegfhaaDoorBno
namespace Go.Proofs.YtinfmomhbegfhaaDoor
open Go.RowKit Go.Shelf

theorem bTakeOut {p q n S : Nat} {w : World} (h : Bm w p q n S) (x : Int) (hx : x < 0 ∨ (n : Int) ≤ x) : Calls Tryd.prog 25 #[.pointer (some ⟨p, 0, none⟩), .int .i64 x] w fun e w' => e = .returned (.int .i64 1) ∧ w' = w := by
  have HR := hide (bRefusedOut h x hx)
  clear h hx
  go_enter Tryd.func25, Tryd.ntmps25
  go_wp2_with (go_at_call 52; refine (unhide HR).mono ?_; rintro e w1 ⟨rfl, hw1⟩; obtain rfl := hw1.symm; clear hw1)
  go_ret
  exact ⟨rfl, rfl⟩
theorem bPutAny {p q n S : Nat} {w : World} (h : Bm w p q n S) (x : Int) : Calls Tryd.prog 24 #[.pointer (some ⟨p, 0, none⟩), .int .i64 x] w fun e w' => ∃ v T, e = .returned (.int .i64 v) ∧ Bm w' p q n T ∧ U1 w w' q := by
  by_cases hx : x < 0 ∨ (n : Int) ≤ x
  · exact (bPutOut h x hx).mono fun e w' ⟨he, hw⟩ => ⟨1, S, he, by rw [hw]; exact h, by rw [hw]; exact U1.refl _ _⟩
  · obtain ⟨y, rfl⟩ : ∃ y : Nat, x = (y : Int) := ⟨x.toNat, by omega⟩
    exact (bPut h y (by omega)).mono fun e w' ⟨he, hm, hu⟩ => ⟨0, _, he, hm, hu⟩
theorem bTakeAny {p q n S : Nat} {w : World} (h : Bm w p q n S) (x : Int) : Calls Tryd.prog 25 #[.pointer (some ⟨p, 0, none⟩), .int .i64 x] w fun e w' => ∃ v T, e = .returned (.int .i64 v) ∧ Bm w' p q n T ∧ U1 w w' q := by
  by_cases hx : x < 0 ∨ (n : Int) ≤ x
  · exact (bTakeOut h x hx).mono fun e w' ⟨he, hw⟩ => ⟨1, S, he, by rw [hw]; exact h, by rw [hw]; exact U1.refl _ _⟩
  · obtain ⟨y, rfl⟩ : ∃ y : Nat, x = (y : Int) := ⟨x.toNat, by omega⟩
    exact (bTake h y (by omega)).mono fun e w' ⟨he, hm, hu⟩ => ⟨0, _, he, hm, hu⟩

theorem keepsFrom_u1 {W W' : World} {q B : Nat} (h : U1 W W' q) {cs : Array Value} {t : TypeId} {fr : Nat × Nat} (hq : W.heap[q]? = some (.cells cs t fr)) : KeepsFrom B W W' :=
  ⟨h.size, fun k o _ hk ho => by
    refine (h.block k (Array.getElem?_eq_some_iff.1 hk).1 (fun e => ?_)).trans hk
    subst e
    rw [hq] at hk
    cases hk
    cases ho⟩
theorem Keeps.u1 {ks : List Nat} {W W' : World} {q : Nat} (h : U1 W W' q) (hk : ∀ k ∈ ks, k < W.heap.size ∧ k ≠ q) : Keeps ks W W' := fun k hm => h.block k (hk k hm).1 (hk k hm).2
theorem Keeps.sub {ks ls : List Nat} {W W' : World} (h : Keeps ks W W') (hs : ∀ k ∈ ls, k ∈ ks) : Keeps ls W W' := fun k hk => h k (hs k hk)
/-- what a round leaves: all that lay ahead of the call; the blocks ks; a set at p and q, whatever is in it -/
structure Rd (w w0 W : World) (ks : List Nat) (p q n : Nat) : Prop where
  bel : Below w.heap.size w W
  keep : Keeps ks w0 W
  size : w0.heap.size ≤ W.heap.size
  set : ∃ T, Bm W p q n T
theorem rd_own {β : Type} {w w0 : World} {ks : List Nat} {p q n B : Nat} (hks : ∀ k ∈ ks, k < w0.heap.size) (hp : p < w0.heap.size) (hq : q < w0.heap.size) (hw : w.heap.size ≤ w0.heap.size) (hB : w0.heap.size ≤ B) : OwnFrom B (fun (_ : β) W => Rd w w0 W ks p q n) := fun _ W W' row hs hg hr => by
  have hrow : ∀ k, k < w0.heap.size → some k ≠ row := fun k hk e => by
    have := (hr k e.symm).1
    omega
  have hblk : ∀ k, k < w0.heap.size → W'.heap[k]? = W.heap[k]? := fun k hk => hg.block k (Nat.lt_of_lt_of_le hk hs.size) (hrow k hk)
  obtain ⟨T, hT⟩ := hs.set
  refine ⟨⟨hg.os.trans hs.bel.os, hg.tape.trans hs.bel.tape, hg.output.trans hs.bel.output, Nat.le_trans hs.bel.size hg.size, fun k hk => (hblk k (by omega)).trans (hs.bel.block k hk)⟩, fun k hk => (hblk k (hks k hk)).trans (hs.keep k hk), Nat.le_trans hs.size hg.size, T, hT.keep (hblk p hp) (hblk q hq)⟩
theorem lies_same {u u' : World} {wo : Option Addr} {E : List Int} (h : LiesI u wo E) {gw : Nat} (hgw : ∀ g o, wo = some ⟨g, o, none⟩ → 0 < E.length → g = gw) (hk : u'.heap[gw]? = u.heap[gw]?) (hs : u.heap.size ≤ u'.heap.size) : LiesI u' wo E := fun h0 => by
  obtain ⟨g, o, h1, h2, h3⟩ := h h0
  obtain rfl := hgw g o h1 h0
  exact ⟨g, o, h1, by omega, fun j hj => (World.cell?_of_block (a := ⟨g, o + j, none⟩) hk).trans (h3 j hj)⟩
theorem Rd.u1 {w w0 W W' : World} {ks : List Nat} {p q n T : Nat} (h : Rd w w0 W ks p q n) (hu : U1 W W' q) (hT : Bm W' p q n T) (hks : ∀ k ∈ ks, k < w0.heap.size ∧ k ≠ q) (hw : w.heap.size ≤ q) : Rd w w0 W' ks p q n :=
  ⟨h.bel.trans (hu.toBelow h.bel.size hw), h.keep.trans (Keeps.u1 hu fun k hk => ⟨Nat.lt_of_lt_of_le (hks k hk).1 h.size, (hks k hk).2⟩), Nat.le_trans h.size hu.size, T, hT⟩
theorem Rd.drewN {w w0 W : World} {ks : List Nat} {p q n : Nat} (h : Rd w w0 W ks p q n) (k : Nat) : Rd w w0 (W.drewN k) ks p q n := by
  obtain ⟨T, hT⟩ := h.set
  exact ⟨belowDrewN h.bel k, h.keep.drewN k, h.size, T, hT.drewN k⟩
theorem Rd.drew {w w0 W : World} {ks : List Nat} {p q n : Nat} (h : Rd w w0 W ks p q n) : Rd w w0 W.drew ks p q n := by
  obtain ⟨T, hT⟩ := h.set
  exact ⟨belowDrew h.bel, h.keep, h.size, T, hT.drew⟩
theorem Rd.box {w w0 W : World} {ks : List Nat} {p q n N : Nat} (h : Rd w w0 W ks p q n) (hN : w0.heap.size ≤ N) (hks : ∀ k ∈ ks, k < w0.heap.size) (hp : p < w0.heap.size) (hq : q < w0.heap.size) (hw : w.heap.size ≤ w0.heap.size) (v : Value) : Rd w w0 (W.setCell ⟨N, 0, none⟩ v) ks p q n := by
  obtain ⟨T, hT⟩ := h.set
  have hblk : ∀ k, k < w0.heap.size → (W.setCell ⟨N, 0, none⟩ v).heap[k]? = W.heap[k]? := fun k hk => Deep.blk_setCell_other W ⟨N, 0, none⟩ v k (by show k ≠ N; omega)
  exact ⟨belowCell h.bel (p := ⟨N, 0, none⟩) (by show w.heap.size ≤ N; omega) v, fun k hk => (hblk k (hks k hk)).trans (h.keep k hk), by simpa [World.setCell] using h.size, T, hT.keep (hblk p hp) (hblk q hq)⟩
theorem keeps_box {ks : List Nat} {W : World} {N : Nat} (h : ∀ k ∈ ks, k < N) (v : Value) : Keeps ks W (W.setCell ⟨N, 0, none⟩ v) := fun k hk => Deep.blk_setCell_other W ⟨N, 0, none⟩ v k (by have := h k hk; show k ≠ N; omega)
theorem name_act {F : Fence} {m : Nat} {P : Program} {c : Code} {Q : Exit → Act → World → Prop} {a : Act} {w : World} (h : ∀ a', a' = a → c.wpIn F m P Q a' w) : c.wpIn F m P Q a w := h a rfl
theorem name_post {F : Fence} {m : Nat} {P : Program} {c : Code} {Q : Exit → Act → World → Prop} {a : Act} {w : World} (h : ∀ Q', Q' = Q → c.wpIn F m P Q' a w) : c.wpIn F m P Q a w := h Q rfl
theorem Rd.below {w w0 W W' : World} {ks : List Nat} {p q n N : Nat} (h : Rd w w0 W ks p q n) (hb : Below N W W') (hN : w0.heap.size ≤ N) (hks : ∀ k ∈ ks, k < w0.heap.size) (hp : p < w0.heap.size) (hq : q < w0.heap.size) (hw : w.heap.size ≤ w0.heap.size) : Rd w w0 W' ks p q n := by
  obtain ⟨T, hT⟩ := h.set
  exact ⟨h.bel.trans (hb.mono (by omega)), fun k hk => (hb.block k (by have := hks k hk; omega)).trans (h.keep k hk), Nat.le_trans h.size hb.size, T, hT.keep (hb.block p (by omega)) (hb.block q (by omega))⟩
theorem results_cell_bool {fn : Func} {p : Tmp} (h : fn.results = #[.cell p 4]) (tmps : Array Value) (w : World) (g : Nat) (v : Bool) (hp : tmps.getD p undef = .pointer (some ⟨g, 0, none⟩)) (hc : w.cell? ⟨g, 0, none⟩ = some (.bool v)) : (results fn tmps).run Tryd.prog w = .ok (.bool v) w := by
  have hp' : tmps[p]?.getD undef = .pointer (some ⟨g, 0, none⟩) := by simpa using hp
  simp [results, h, hp', asAddr, loadVar, isAgg, hc, go_sem]
theorem els_sorted (S n X : Nat) : (Bit.els S n X).Pairwise (· < ·) := (List.pairwise_lt_range' (s := X) (n := n - X) (step := 1) (by decide)).filter _
end Go.Proofs.YtinfmomhbegfhaaDoor
