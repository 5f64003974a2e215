/- Sketches: Clone, Cells, copied. -/
import Derived.Test.YtdmdenbpokmelaaSkf
namespace Go.Proofs.Ytdmdenbpokmelaa.K
open Go.RowKit Go.Lib
open Go.Proofs.Ytdmdenbpokmelaa.S (Rec)
theorem wpList_putC {ops : Array Oper} {rest : List Oper} {o : Oper} {a : Act} {w : World} {Q : Exit → Act → World → Prop} (hgd : o.guard = none) (s x : Operand) (ho : o.op = .call { callee := .builtin .append, args := #[s, x], argTypes := #[32, 32] }) (d : Option Tmp) (hd : o.dst = d)
    (B : Nat) (l m : List Ce) (n1 n2 : Nat) (e1 : n1 = l.length) (e2 : n2 = m.length) (ao bo : Option Addr) (c c2 : Nat) (hs : a.eval s = .slice ao n1 c) (hx : a.eval x = .slice bo n2 c2) (hown : RC.Own w B l ao c) (hm : RC.At w m bo c2) (hl : (l.length + m.length) * 24 ≤ 140737488355328) (hB : B ≤ w.heap.size)
    (h : ∀ ao' n' c' w', Hid (RC.Put w w' B l m ao c ao' n' c') → wpList Try.prog ops Q rest (a.put d (.slice ao' n' c')) w') : wpList Try.prog ops Q (o :: rest) a w :=
  RC.wpList_put hgd s x ho d hd B l m n1 n2 e1 e2 ao bo c c2 hs hx hown hm hl hB h
theorem Own.empty (W : World) (B : Nat) (hB : B ≤ W.heap.size) : RC.Own (W.alloc (.cells #[] 57)) B [] (some ⟨W.heap.size, 0, none⟩) 0 :=
  ⟨rfl, .inr ⟨W.heap.size, 0, #[], rfl, hB, heap_alloc_new _ _, Nat.le_refl _, by decide, rfl, rfl⟩⟩
theorem Sk.at {w : World} {a g cap : Nat} {l : List Ce} (h : Sk w a g cap l) : RC.At w l (some ⟨g, 0, none⟩) cap := by
  obtain ⟨cs, t, hr, hh⟩ := h.row
  refine ⟨fun _ => ⟨g, 0, rfl, fun j v hv => ?_⟩, h.hc, (fun e => by cases e), by have := h.hm; omega⟩
  have := hh j v hv
  simp [World.cell?, hr, this]
/-- a list behind a slice is a row's front -/
theorem own_hol {w : World} {B : Nat} {l : List Ce} {ao : Option Addr} {c : Nat} (h : RC.Own w B l ao c) (h3 : 3 ≤ l.length) : ∃ g cs t, ao = some ⟨g, 0, none⟩ ∧ B ≤ g ∧ w.heap[g]? = some (.cells cs t (0, 0)) ∧ Hol cs l ∧ l.length ≤ c := by
  rcases h.2 with ⟨_, hn⟩ | ⟨g, cp, cur, hv, h1, h2, h4, h5, h6, h7⟩
  · omega
  · cases hv
    refine ⟨g, _, _, rfl, h1, h2, fun j v hv => ?_, h4⟩
    rw [← h7, List.getElem?_take] at hv
    split at hv
    · simpa using hv
    · cases hv
set_option maxHeartbeats 1000000 in
theorem kClone (l : List Ce) (g c : Nat) (u : World) (h : RC.At u l (some ⟨g, 0, none⟩) c) (hm : l.length ≤ 256) : Calls Try.prog 30 #[.slice (some ⟨g, 0, none⟩) l.length c] u fun e u' => ∃ xo cc, e = .returned (.slice xo l.length cc) ∧ RC.Own u' u.heap.size l xo cc ∧ Below u.heap.size u u' := by
  obtain ⟨n, hn⟩ : ∃ n, n = l.length := ⟨_, rfl⟩
  have HN := hide hn
  have HM : Hid ((([] : List Ce).length + l.length) * 24 ≤ 140737488355328) := by show (0 + l.length) * 24 ≤ _; omega
  have hq : ∀ W : World, (binOp .eql 32 (.slice (some ⟨g, 0, none⟩) n c) (.slice none 0 0)).run Try.prog W = .ok (.bool false) W := fun W => by kernel_rfl
  have HA := hide (h.below ((Below.refl u.heap.size u).alloc (Nat.le_refl _) (.cells #[] 57)))
  have HS := hide (show u.heap.size ≤ (u.alloc (.cells #[] 57)).heap.size by rw [World.size_alloc]; omega)
  have HB := hide ((Below.refl u.heap.size u).alloc (Nat.le_refl _) (.cells #[] 57))
  rw [← hn]
  clear h hm hn
  go_enter Try.func30, Try.ntmps30
  go_wp2_with (first
    | (at_builtin; (with_reducible refine wpList_putC (by rfl) (.tmp 5) (.tmp 6) (by rfl) (some 7) (by rfl) u.heap.size [] l 0 n rfl (unhide HN) (some ⟨u.heap.size, 0, none⟩) (some ⟨g, 0, none⟩) 0 c (by with_unfolding_all rfl) (by with_unfolding_all rfl) (Own.empty u _ (Nat.le_refl _)) (unhide HA) (unhide HM) (unhide HS) ?_); intro x4 n4 c4 W4 HP4; simp only [Act.put, List.setIfInBounds_toArray, List.set_cons_zero, List.set_cons_succ]; have hn4 : n = n4 := ((unhide HP4).len.trans (unhide HN).symm).symm; subst hn4)
    | fail)
  go_ret
  exact ⟨x4, c4, rfl, (unhide HP4).own, (unhide HB).trans (unhide HP4).below⟩
section
variable {a g cap : Nat} {l : List Ce} {u : World}
set_option maxHeartbeats 1000000 in
theorem kCells (h : Sk u a g cap l) : Calls Try.prog 13 #[.pointer (some ⟨a, 0, none⟩)] u fun e u' => ∃ xo cc, e = .returned (.slice xo l.length cc) ∧ RC.Own u' u.heap.size l xo cc ∧ Below u.heap.size u u' := by
  have HC := hide (kClone l g cap u h.at h.hm)
  have z0 := S.cell_one h.box
  clear h
  generalize l.length = n at *
  go_enter Try.func13, Try.ntmps13
  go_wp2_with (first
    | (go_at_call 30; refine (unhide HC).mono ?_; rintro e W1 ⟨xo, cc, rfl, ho, hb⟩; have HO := hide ho; have HB := hide hb; clear ho hb)
    | fail)
  go_ret
  exact ⟨xo, cc, rfl, unhide HO, unhide HB⟩
set_option maxHeartbeats 1000000 in
theorem kCopied (h : Sk u a g cap l) : Calls Try.prog 25 #[.pointer (some ⟨a, 0, none⟩)] u fun e u' => ∃ a2 g2 c2, e = .returned (.pointer (some ⟨a2, 0, none⟩)) ∧ Sk u' a2 g2 c2 l ∧ Below u.heap.size u u' ∧ u.heap.size ≤ a2 ∧ u.heap.size ≤ g2 := by
  have HC := hide (kCells h)
  have H3 := hide h.h3
  have HM := hide h.hm
  clear h
  obtain ⟨n, hn⟩ : ∃ n, n = l.length := ⟨_, rfl⟩
  have HN := hide hn
  rw [← hn] at HC
  clear hn
  go_enter Try.func25, Try.ntmps25
  go_wp2_with (first
    | (go_at_call 13; refine (unhide HC).mono ?_; rintro e W1 ⟨xo, cc, rfl, ho, hb⟩; have HO := hide ho; have HB := hide hb; clear ho hb)
    | fail)
  go_ret
  obtain ⟨g2, cs, t, rfl, hg, hr, hh, hc⟩ := own_hol (unhide HO) (unhide H3)
  have hn := unhide HN
  subst hn
  have hx := heap_alloc_new W1 (.cells #[.slice (some ⟨g2, 0, none⟩) l.length cc] 53)
  exact ⟨W1.heap.size, g2, cc, rfl, ⟨hx, ⟨cs, t, heapOld _ hr, hh⟩, by have := (Array.getElem?_eq_some_iff.1 hr).1; omega, unhide H3, unhide HM, hc⟩, (unhide HB).alloc (unhide HB).size _, (unhide HB).size, hg⟩
end
end Go.Proofs.Ytdmdenbpokmelaa.K
