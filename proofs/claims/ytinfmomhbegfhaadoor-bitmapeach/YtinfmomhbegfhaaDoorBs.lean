/- Several sets in memory, each made behind those ahead of it; what is refused. -/
import Derived.Test.YtinfmomhbegfhaaDoorBm
import Derived.Test.YtinfmomhbegfhaaDoorBe
import Derived.Test.YtinfmomhbegfhaaDoorBw
import Derived.Test.YtinfmomhbegfhaaDoorBo
namespace Go.Proofs.YtinfmomhbegfhaaDoor
open Go.RowKit

/-- where a set lies, its bound, its numbers -/
structure At where
  p : Nat
  q : Nat
  n : Nat
  S : Nat
def At.ahead (c d : At) : Prop := c.p < d.p ∧ c.p < d.q ∧ c.q < d.p ∧ c.q < d.q
structure Ss (w u : World) (l : List At) : Prop where
  bel : Below w.heap.size w u
  all : ∀ c ∈ l, Bm u c.p c.q c.n c.S ∧ w.heap.size ≤ c.p ∧ w.heap.size ≤ c.q
  pw : l.Pairwise At.ahead
section
variable {w u u' : World} {l : List At}
theorem Ss.at (h : Ss w u l) (i : Nat) {c : At} (hi : l[i]? = some c) : Bm u c.p c.q c.n c.S := (h.all c (List.mem_of_getElem? hi)).1
theorem Ss.nil (w : World) : Ss w w [] := ⟨Below.refl _ _, fun _ h => absurd h (by simp), List.Pairwise.nil⟩
theorem Ss.below (h : Ss w u l) (hb : Below u.heap.size u u') : Ss w u' l := ⟨h.bel.trans (hb.mono h.bel.size), fun c hc => ⟨(h.all c hc).1.below hb, (h.all c hc).2⟩, h.pw⟩
theorem Ss.drewN (h : Ss w u l) (k : Nat) : Ss w (u.drewN k) l := ⟨belowDrewN h.bel k, fun c hc => ⟨(h.all c hc).1.drewN k, (h.all c hc).2⟩, h.pw⟩
theorem Ss.more (h : Ss w u l) (hb : ∃ k, u' = u.drewN k) : Ss w u' l := by
  obtain ⟨k, rfl⟩ := hb
  exact h.drewN k
theorem Ss.push (h : Ss w u l) (hb : Below u.heap.size u u') {p q n S : Nat} (hp : u.heap.size ≤ p) (hq : u.heap.size ≤ q) (hm : Bm u' p q n S) : Ss w u' (l ++ [⟨p, q, n, S⟩]) := by
  have h' := h.below hb
  have hsz := h.bel.size
  refine ⟨h'.bel, fun c hc => ?_, ?_⟩
  · rcases List.mem_append.1 hc with hc | hc
    · exact h'.all c hc
    · obtain rfl : c = ⟨p, q, n, S⟩ := by simpa using hc
      exact ⟨hm, by show _ ≤ p; omega, by show _ ≤ q; omega⟩
  · refine List.pairwise_append.2 ⟨h.pw, List.pairwise_singleton _ _, fun c hc d hd => ?_⟩
    obtain rfl : d = ⟨p, q, n, S⟩ := by simpa using hd
    have h1 := (h.all c hc).1.plt
    have h2 := (h.all c hc).1.qlt
    exact ⟨by show _ < p; omega, by show _ < q; omega, by show _ < p; omega, by show _ < q; omega⟩
theorem Ss.apart (h : Ss w u l) {i j : Nat} {c d : At} (hi : l[i]? = some c) (hj : l[j]? = some d) (hne : i ≠ j) : d.p ≠ c.q ∧ d.q ≠ c.q := by
  obtain ⟨hi', rfl⟩ := List.getElem?_eq_some_iff.1 hi
  obtain ⟨hj', rfl⟩ := List.getElem?_eq_some_iff.1 hj
  have hp := List.pairwise_iff_getElem.1 h.pw
  rcases Nat.lt_or_gt_of_ne hne with hl | hl
  · have := hp i j hi' hj' hl
    rw [At.ahead] at this
    omega
  · have := hp j i hj' hi' hl
    rw [At.ahead] at this
    omega
/-- one of them is changed -/
theorem Ss.set (h : Ss w u l) (i : Nat) {c : At} (hi : l[i]? = some c) {S' : Nat} (hm : Bm u' c.p c.q c.n S') (hu : U1 u u' c.q) : Ss w u' (l.set i ⟨c.p, c.q, c.n, S'⟩) := by
  have hc := h.all c (List.mem_of_getElem? hi)
  obtain ⟨hi', hie⟩ := List.getElem?_eq_some_iff.1 hi
  refine ⟨h.bel.trans (hu.toBelow h.bel.size hc.2.2), fun d hd => ?_, ?_⟩
  · obtain ⟨j, hj, hjd⟩ := List.mem_iff_getElem.1 hd
    rw [List.getElem_set] at hjd
    by_cases e : i = j
    · rw [if_pos e] at hjd
      subst hjd
      exact ⟨hm, hc.2⟩
    · rw [if_neg e] at hjd
      have hj' : j < l.length := by simpa using hj
      have hj2 : l[j]? = some d := List.getElem?_eq_some_iff.2 ⟨hj', hjd⟩
      have ha := h.apart hi hj2 e
      have hd' := h.all d (List.mem_of_getElem? hj2)
      exact ⟨hd'.1.u1 hu ha.1 ha.2, hd'.2⟩
  · rw [List.pairwise_iff_getElem]
    intro a b ha hb hab
    have ha' : a < l.length := by simpa using ha
    have hb' : b < l.length := by simpa using hb
    have hp := List.pairwise_iff_getElem.1 h.pw a b ha' hb' hab
    rw [List.getElem_set, List.getElem_set]
    by_cases e1 : i = a <;> by_cases e2 : i = b
    · omega
    · subst e1; rw [if_pos rfl, if_neg e2]; rw [hie] at hp; exact hp
    · subst e2; rw [if_pos rfl, if_neg e1]; rw [hie] at hp; exact hp
    · rw [if_neg e1, if_neg e2]; exact hp
end
theorem bRefusedOut {p q n S : Nat} {w : World} (h : Bm w p q n S) (x : Int) (hx : x < 0 ∨ (n : Int) ≤ x) : Calls Tryd.prog 52 #[.pointer (some ⟨p, 0, none⟩), .int .i64 x] w fun e w' => e = .returned (.int .i64 1) ∧ w' = w := by
  have hc := h.c0
  clear h
  by_cases hx0 : x < 0
  · clear hx
    go_enter Tryd.func52, Tryd.ntmps52
    go_wp2
    go_ret
    exact ⟨rfl, rfl⟩
  · have hx1 : (n : Int) ≤ x := by omega
    clear hx
    go_enter Tryd.func52, Tryd.ntmps52
    go_wp2
    go_ret
    exact ⟨rfl, rfl⟩
theorem bHasOut {p q n S : Nat} {w : World} (h : Bm w p q n S) (x : Int) (hx : x < 0 ∨ (n : Int) ≤ x) : Calls Tryd.prog 20 #[.pointer (some ⟨p, 0, none⟩), .int .i64 x] w fun e w' => e = .returned (.bool false) ∧ w' = w := by
  have HR := hide (bRefusedOut h x hx)
  clear h hx
  go_enter Tryd.func20, Tryd.ntmps20
  go_wp2_with (go_at_call 52; refine (unhide HR).mono ?_; rintro e w1 ⟨rfl, hw1⟩; obtain rfl := hw1.symm; clear hw1)
  go_ret
  exact ⟨rfl, rfl⟩
theorem bWithBad {p q n S p' q' n' T : Nat} {w : World} (h : Bm w p q n S) (h' : Bm w p' q' n' T) (hne : n ≠ n') (fv : Value) : Calls Tryd.prog 56 #[.pointer (some ⟨p, 0, none⟩), .pointer (some ⟨p', 0, none⟩), fv] w fun e w' => e = .returned (.int .i64 1) ∧ ∃ k, w' = w.drewN k := by
  have h0 := h.c0
  have h0' := h'.c0
  have hn : ¬ (n : Int) = (n' : Int) := by omega
  clear h h' hne
  go_enter Tryd.func56, Tryd.ntmps56
  go_wp2
  go_quiet (fail)
  go_wp2
  go_ret
  exact ⟨rfl, _, rfl⟩
theorem bWithNil {p q n S : Nat} {w : World} (_h : Bm w p q n S) (fv : Value) : Calls Tryd.prog 56 #[.pointer (some ⟨p, 0, none⟩), .pointer none, fv] w fun e w' => e = .returned (.int .i64 2) ∧ w' = w := by
  go_enter Tryd.func56, Tryd.ntmps56
  go_wp2
  go_ret
  exact ⟨rfl, rfl⟩
theorem bOrBad {p q n S p' q' n' T : Nat} {w : World} (h : Bm w p q n S) (h' : Bm w p' q' n' T) (hne : n ≠ n') : Calls Tryd.prog 33 #[.pointer (some ⟨p, 0, none⟩), .pointer (some ⟨p', 0, none⟩)] w fun e w' => e = .returned (.int .i64 1) ∧ ∃ k, w' = w.drewN k := by
  have HW := hide (fun fv => bWithBad h h' hne fv)
  have hmf : ∀ (fn : Fn) (first cap : Array Value) (w : World), (Instr.makeFunc fn first cap).run Tryd.prog w = .ok (.func fn first cap) w := fun _ _ _ _ => rfl
  clear h h' hne
  go_enter Tryd.func33, Tryd.ntmps33
  go_wp2_with fail
  refine (unhide HW _).mono ?_
  rintro e w1 ⟨rfl, k, rfl⟩
  go_wp2
  go_ret
  exact ⟨rfl, _, rfl⟩
theorem bOrNil {p q n S : Nat} {w : World} (h : Bm w p q n S) : Calls Tryd.prog 33 #[.pointer (some ⟨p, 0, none⟩), .pointer none] w fun e w' => e = .returned (.int .i64 2) ∧ w' = w := by
  have HW := hide (fun fv => bWithNil h fv)
  have hmf : ∀ (fn : Fn) (first cap : Array Value) (w : World), (Instr.makeFunc fn first cap).run Tryd.prog w = .ok (.func fn first cap) w := fun _ _ _ _ => rfl
  clear h
  go_enter Tryd.func33, Tryd.ntmps33
  go_wp2_with fail
  refine (unhide HW _).mono ?_
  rintro e w1 ⟨rfl, hw⟩
  obtain rfl := hw.symm
  clear hw
  go_wp2
  go_ret
  exact ⟨rfl, rfl⟩
theorem bAndBad {p q n S p' q' n' T : Nat} {w : World} (h : Bm w p q n S) (h' : Bm w p' q' n' T) (hne : n ≠ n') : Calls Tryd.prog 34 #[.pointer (some ⟨p, 0, none⟩), .pointer (some ⟨p', 0, none⟩)] w fun e w' => e = .returned (.int .i64 1) ∧ ∃ k, w' = w.drewN k := by
  have HW := hide (fun fv => bWithBad h h' hne fv)
  have hmf : ∀ (fn : Fn) (first cap : Array Value) (w : World), (Instr.makeFunc fn first cap).run Tryd.prog w = .ok (.func fn first cap) w := fun _ _ _ _ => rfl
  clear h h' hne
  go_enter Tryd.func34, Tryd.ntmps34
  go_wp2_with fail
  refine (unhide HW _).mono ?_
  rintro e w1 ⟨rfl, k, rfl⟩
  go_wp2
  go_ret
  exact ⟨rfl, _, rfl⟩
theorem bAndNil {p q n S : Nat} {w : World} (h : Bm w p q n S) : Calls Tryd.prog 34 #[.pointer (some ⟨p, 0, none⟩), .pointer none] w fun e w' => e = .returned (.int .i64 2) ∧ w' = w := by
  have HW := hide (fun fv => bWithNil h fv)
  have hmf : ∀ (fn : Fn) (first cap : Array Value) (w : World), (Instr.makeFunc fn first cap).run Tryd.prog w = .ok (.func fn first cap) w := fun _ _ _ _ => rfl
  clear h
  go_enter Tryd.func34, Tryd.ntmps34
  go_wp2_with fail
  refine (unhide HW _).mono ?_
  rintro e w1 ⟨rfl, hw⟩
  obtain rfl := hw.symm
  clear hw
  go_wp2
  go_ret
  exact ⟨rfl, rfl⟩
theorem bMinusBad {p q n S p' q' n' T : Nat} {w : World} (h : Bm w p q n S) (h' : Bm w p' q' n' T) (hne : n ≠ n') : Calls Tryd.prog 35 #[.pointer (some ⟨p, 0, none⟩), .pointer (some ⟨p', 0, none⟩)] w fun e w' => e = .returned (.int .i64 1) ∧ ∃ k, w' = w.drewN k := by
  have HW := hide (fun fv => bWithBad h h' hne fv)
  have hmf : ∀ (fn : Fn) (first cap : Array Value) (w : World), (Instr.makeFunc fn first cap).run Tryd.prog w = .ok (.func fn first cap) w := fun _ _ _ _ => rfl
  clear h h' hne
  go_enter Tryd.func35, Tryd.ntmps35
  go_wp2_with fail
  refine (unhide HW _).mono ?_
  rintro e w1 ⟨rfl, k, rfl⟩
  go_wp2
  go_ret
  exact ⟨rfl, _, rfl⟩
theorem bMinusNil {p q n S : Nat} {w : World} (h : Bm w p q n S) : Calls Tryd.prog 35 #[.pointer (some ⟨p, 0, none⟩), .pointer none] w fun e w' => e = .returned (.int .i64 2) ∧ w' = w := by
  have HW := hide (fun fv => bWithNil h fv)
  have hmf : ∀ (fn : Fn) (first cap : Array Value) (w : World), (Instr.makeFunc fn first cap).run Tryd.prog w = .ok (.func fn first cap) w := fun _ _ _ _ => rfl
  clear h
  go_enter Tryd.func35, Tryd.ntmps35
  go_wp2_with fail
  refine (unhide HW _).mono ?_
  rintro e w1 ⟨rfl, hw⟩
  obtain rfl := hw.symm
  clear hw
  go_wp2
  go_ret
  exact ⟨rfl, rfl⟩
end Go.Proofs.YtinfmomhbegfhaaDoor
