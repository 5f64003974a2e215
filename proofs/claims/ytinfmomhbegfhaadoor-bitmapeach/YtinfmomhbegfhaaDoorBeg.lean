/- Each, and gone: the numbers that are in, as a row. -/
import Derived.Test.YtinfmomhbegfhaaDoorBea
namespace Go.Proofs.YtinfmomhbegfhaaDoor
open Go.RowKit Go.Shelf

attribute [local go_sem] Oper.semAt_some

theorem bEach {p q n S : Nat} {w : World} (h : Bm w p q n S) : Calls Tryd.prog 23 #[.pointer (some ⟨p, 0, none⟩)] w fun e w' => ∃ p' q' B, e = .returned (.func (.func 54) #[] #[.pointer (some ⟨B, 0, none⟩)]) ∧ w.heap.size ≤ p' ∧ w.heap.size ≤ q' ∧ w.heap.size ≤ B ∧ B < w'.heap.size ∧ Bm w' p' q' n S ∧ w'.cell? ⟨B, 0, none⟩ = some (.pointer (some ⟨p', 0, none⟩)) ∧ (∃ cs t fr, w'.heap[B]? = some (.cells cs t fr) ∧ t ≠ 3) ∧ Below w.heap.size w w' := by
  have HC := hide (bCopy h)
  have hmf : ∀ (fn : Fn) (first cap : Array Value) (w : World), (Instr.makeFunc fn first cap).run Tryd.prog w = .ok (.func fn first cap) w := fun _ _ _ _ => rfl
  clear h
  go_enter Tryd.func23, Tryd.ntmps23
  go_wp2_with fail
  refine (unhide HC).mono ?_
  rintro e w1 ⟨p', q', rfl, hp, hq, hm, hb⟩
  have HP := hide hp
  have HQ := hide hq
  have HM := hide hm
  have HB := hide hb
  clear hp hq hm hb HC
  go_wp2
  go_ret
  refine ⟨p', q', w1.heap.size, rfl, unhide HP, unhide HQ, (unhide HB).size, by simp, (unhide HM).below ((Below.refl _ _).alloc (Nat.le_refl _) _), (Boxed.new w1 _ _).cell, ⟨_, _, _, Boxed.new w1 _ _, by decide⟩, (unhide HB).alloc (unhide HB).size _⟩
theorem bEachNil (w : World) : Calls Tryd.prog 23 #[.pointer none] w fun e w' => ∃ B, e = .returned (.func (.func 54) #[] #[.pointer (some ⟨B, 0, none⟩)]) ∧ w.heap.size ≤ B ∧ B < w'.heap.size ∧ w'.cell? ⟨B, 0, none⟩ = some (.pointer none) ∧ Below w.heap.size w w' := by
  have hmf : ∀ (fn : Fn) (first cap : Array Value) (w : World), (Instr.makeFunc fn first cap).run Tryd.prog w = .ok (.func fn first cap) w := fun _ _ _ _ => rfl
  go_enter Tryd.func23, Tryd.ntmps23
  go_wp2
  go_ret
  refine ⟨w.heap.size, rfl, Nat.le_refl _, by simp, (Boxed.new w _ _).cell, (Below.refl _ _).alloc (Nat.le_refl _) _⟩
theorem ownFrom_keeps {β : Type} {w2 : World} {ks : List Nat} (h : ∀ k ∈ ks, k < w2.heap.size) : OwnFrom w2.heap.size (fun (_ : β) W => Keeps ks w2 W ∧ w2.heap.size ≤ W.heap.size) := fun _ W W' row hs hg hr => by
  refine ⟨fun k hk => ?_, Nat.le_trans hs.2 hg.size⟩
  refine (hg.block k (Nat.lt_of_lt_of_le (h k hk) hs.2) (fun e => ?_)).trans (hs.1 k hk)
  have := (hr k e.symm).1
  have := h k hk
  omega
theorem not_row {W : World} {k : Nat} {cs : Array Value} {t e : TypeId} {fr : Nat × Nat} (h : W.heap[k]? = some (.cells cs t fr)) (hte : t ≠ e) {base size j : Nat} {v : Value} {xs : List Value} (hr : W.ownsRow base e size v j xs) : some k ≠ v.ownBlock := by
  rcases hr.2 with ⟨rfl, _⟩ | ⟨g, cap, cur, rfl, _, hgb, _⟩
  · simp [Value.ownBlock]
  · intro e'
    obtain rfl : k = g := by simpa [Value.ownBlock] using e'
    have := h.symm.trans hgb
    simp at this
    exact hte this.2.1
theorem infoI : (Tryd.prog.info? 3).map (fun i => (i.zero, i.size, i.bytes)) = some (some (.int .i64 0), 1, 8) := by kernel_rfl
set_option maxRecDepth 100000 in
set_option maxHeartbeats 2000000 in
theorem lGone {p q n S : Nat} {w : World} (h : Bm w p q n S) (hT : Tab w) : Calls Tryd.prog 14 #[.pointer (some ⟨p, 0, none⟩)] w fun e w' => ∃ v, e = .returned v ∧ w'.ownsRow w.heap.size 3 1 v (Bit.els S n 0).length ((Bit.els S n 0).map fun y => Value.int .i64 ((y : Nat) : Int)) ∧ Below w.heap.size w w' := by
  obtain ⟨i0, hi, hz0, hz1, hz2⟩ := info_parts infoI
  have h0 : 0 < w.heap.size := World.block_lt_of_cell? _ _ (hT 0 (by decide))
  have hb0 : Below w.heap.size w (w.alloc (.cells #[.slice none 0 0] 36)) := (Below.refl _ w).alloc (Nat.le_refl _) _
  have HE := hide (bEach (h.below hb0))
  have HT := hide hT
  have heq : ∀ (lb : Array Value) (u : World), (binOp .eql 49 (.func (.func 54) #[] lb) .nilFunc).run Tryd.prog u = .ok (.bool false) u := fun _ _ => by kernel_rfl
  refine (callsIn_wide (n := 3)).1 ?_
  refine callsIn_of_wp_marks Tryd.func14 rfl trivial ?_ rfl
  simp only [Tryd.ntmps14, List.size_toArray, List.length_cons, List.length_nil, Nat.reduceAdd, Nat.reduceSub, Array.replicate_succ, Array.replicate_zero, List.push_toArray, List.append_toArray, List.nil_append, List.cons_append]
  gi_wp2_with (refine ⟨trivial, ?_⟩; gi_at_call 23; refine (callsIn_wide.2 (unhide HE)).mono ?_; rintro e w2 ⟨p', q', B, rfl, hp', hq', hB, hBl, hm2, hc2, hBc, hb2⟩)
  have HM2 := hide hm2
  have hks : ∀ k ∈ [0, p', q', B], k < w2.heap.size := fun k hk => by
    have h1 := hm2.plt
    have h2 := hm2.qlt
    have h3 := hb2.size
    simp at h3
    simp at hk
    omega
  have HGE : Hid (w.heap.size < p' ∧ w.heap.size < q' ∧ w.heap.size < B ∧ 0 < w.heap.size) := by
    simp at hp' hq' hB
    exact ⟨by omega, by omega, by omega, h0⟩
  have bO : Boxed w2 w.heap.size 36 (.slice none 0 0) := (hb2.block w.heap.size (by simp)).trans (Boxed.new w 36 (.slice none 0 0))
  have hB0 : Below w.heap.size w w2 := hb0.trans (hb2.mono (by simp))
  have hlen : (Bit.els S n 0).length ≤ 65536 := by
    have := h.le
    refine Nat.le_trans (List.length_filter_le _ _) ?_
    simp; omega
  have hseq := each_stops (3 - 1) (by decide) hm2 ((unhide HT).below hB0 h0) hc2 hBl
  have hnr : ∀ (W : World) (v : Value) (j : Nat) (xs : List Value), Keeps [0, p', q', B] w2 W → W.ownsRow w.heap.size 3 1 v j xs → ∀ k ∈ [0, p', q', B], some k ≠ v.ownBlock := fun W v j xs hk hr k hkm => by
    obtain ⟨cap, hd⟩ := (unhide HM2).bq.hd
    obtain ⟨cs, hrow, _⟩ := (unhide HM2).bq.row
    simp only [List.mem_cons, List.not_mem_nil, or_false] at hkm
    rcases hkm with rfl | rfl | rfl | rfl
    · rcases hr.2 with ⟨rfl, _⟩ | ⟨g, cap, cur, rfl, hge, _, _⟩
      · simp [Value.ownBlock]
      · intro e'
        have : 0 = g := by simpa [Value.ownBlock] using e'
        omega
    · exact not_row ((hk _ (by simp)).trans hd) (by decide) hr
    · exact not_row ((hk _ (by simp)).trans hrow) (by decide) hr
    · obtain ⟨cs3, t3, fr3, h3, h4⟩ := hBc
      exact not_row ((hk _ (by simp)).trans h3) h4 hr
  refine wpIn_rangeFunc_ownG rfl (by decide) (gf := 54) (lb := #[.pointer (some ⟨B, 0, none⟩)]) rfl trivial (enters_of Tryd.func54 (by kernel_rfl) rfl) hseq
    (fun h k => h.trans k) (fun W l o o' hl ho _ _ => fun k hk => by have h1 := hks k hk; exact (grownBy_putObj' W l o').block k (by have := (Array.getElem?_eq_some_iff.1 ho).1; omega) (fun e => absurd (Option.some.inj e) (by omega))) (Below.refl _ _) (fun _ => rfl)
    (fun pre W => (∃ v, Boxed W w.heap.size 36 v ∧ W.ownsRow w.heap.size 3 1 v pre.length (pre.map fun y => Value.int .i64 ((y : Nat) : Int)) ∧ True) ∧ (Below w.heap.size w W ∧ (Keeps [0, p', q', B] w2 W ∧ w2.heap.size ≤ W.heap.size)))
    (fun _ _ _ => False)
    (OwnFrom.and (Own.from (holdsRow_own w.heap.size w.heap.size 36 3 1 (fun pre : List Nat => pre.length) (fun pre : List Nat => pre.map fun y => Value.int .i64 ((y : Nat) : Int)) (fun _ _ => True)) _) (OwnFrom.and (ownFrom_below (Nat.le_refl _) hB0.size) (ownFrom_keeps hks)))
    (fun _ _ _ _ _ hs _ _ => hs)
    ⟨⟨_, bO, World.ownsRow_nil _ _ _ _, trivial⟩, hB0, Keeps.refl _ _, Nat.le_refl _⟩
    (fun x => { tmps := #[.pointer (some ⟨p, 0, none⟩), undef, .slice none 0 0, .pointer (some ⟨w.heap.size, 0, none⟩), .func (.func 54) #[] #[.pointer (some ⟨B, 0, none⟩)], .int .i64 ((x : Nat) : Int), .pointer (some ⟨p, 0, none⟩), .func (.func 54) #[] #[.pointer (some ⟨B, 0, none⟩)], .func (.func 54) #[] #[.pointer (some ⟨B, 0, none⟩)], .bool false, undef, .func (.func 54) #[] #[.pointer (some ⟨B, 0, none⟩)], .int .i64 ((x : Nat) : Int), undef, undef, undef, undef, undef], defers := [] }) ?assign ?body ?done ?stop
  case assign =>
    intro l x W K hK
    gi_wp2
    exact hK
  case body =>
    rintro l pre x W ⟨⟨v, hv, hrow, _⟩, hB, hk, hsz⟩ hlt
    have hc := hv.cell
    have hno := hnr W v _ _ hk hrow
    gi_wp2_with (gi_at_builtin; refine wpListIn_append_own _ rfl _ _ 36 rfl w.heap.size 3 i0 (.int .i64 0) 1 8 Tryd.underlying36 hi hz0 hz1 hz2 rfl (by decide) _ _ _ rfl (hrow.alloc _) ⟨W.heap.size, 0, none⟩ 1 1 [.int .i64 ((x : Nat) : Int)] rfl rfl (cell_one_new _ _ _) (by simp [Value.oneCell']) (by simp only [maxLen]; omega) (by omega) (by have := hB.size; simp; omega) ?_; intro v' w1 hown' hgrow _; obtain ⟨g', cap', rfl⟩ := ownsRow_succ hown'; obtain ⟨hv1, hv2, hr2, hk2, hb3⟩ := hv.appended (by decide) hrow hB.size (Nat.le_refl _) hown' hgrow; have hc1 := hv1.cell; have hf1 := hv1.frozen)
    have hkk : Keeps [0, p', q', B] W (w1.setCell ⟨w.heap.size, 0, none⟩ (.slice (some ⟨g', 0, none⟩) (pre.length + 1) cap')) := fun k hkm => by
      have h1 := hks k hkm
      have h2 : k ≠ w.heap.size := fun e => by
        have h3 := (unhide HGE)
        simp only [List.mem_cons, List.not_mem_nil, or_false] at hkm
        omega
      refine (Deep.blk_setCell_other _ ⟨w.heap.size, 0, none⟩ _ k h2).trans ?_
      refine (hgrow.block k (by simp; omega) (hno k hkm)).trans ?_
      exact Below.heap_alloc W _ k (by omega)
    refine ⟨hk2.from _, hkk, ⟨⟨_, hv2, by simpa using hr2, trivial⟩, hB.trans hb3, hk.trans hkk, ?_⟩⟩
    exact Nat.le_trans hsz hb3.size
  case done =>
    rintro D ys W hD rfl ⟨⟨v, hv, hrow, _⟩, hB, _⟩ hK
    have hc := hv.cell
    gi_wp2
    refine ⟨by simp, .inl ⟨_, _, rfl, run_takeDeferred hK, ?_⟩⟩
    exact ⟨_, results_tmp rfl _ _ _, v, rfl, ownsRow_putObj hrow _ hK rfl, hB.trans (belowK_b (w := w) (Nat.le_refl _) W D _ _ (by have := hB0.size; omega) hK rfl rfl)⟩
  case stop =>
    rintro D c pre W _ _ h _
    exact h.elim
end Go.Proofs.YtinfmomhbegfhaaDoor
