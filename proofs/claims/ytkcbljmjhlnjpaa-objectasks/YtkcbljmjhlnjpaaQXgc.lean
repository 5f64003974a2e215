/- Vectors, the document's side: Covers, Below, Compare, Next. -/
import Derived.Test.YtkcbljmjhlnjpaaQ09
namespace Go.Proofs.Ytkcbljmjhlnjpaa
open Go.RowKit
set_option maxRecDepth 100000 in
set_option maxHeartbeats 2000000 in
theorem rCovers (l : List (Nat × Nat)) (ao : Option Addr) (c : Nat) (d : Nat × Nat) (u : World) (h : DAt u l ao) : Calls Try.prog 93 #[.slice ao l.length c, .agg #[.int .u32 (d.1 : Int), .int .u64 (d.2 : Int)]] u fun e u' => e = .returned (.bool (covB l d)) ∧ Below u.heap.size u u' := by
  obtain ⟨qa, qc⟩ := d
  have HC := hide (fun (w : World) (hw : Below u.heap.size u w) => rCount l ao c qa w (h.below hw))
  show Calls Try.prog 93 #[.slice ao l.length c, .agg #[.int .u32 (qa : Int), .int .u64 (qc : Int)]] u _
  have HE : Hid (covB l (qa, qc) = decide (1 ≤ qc ∧ qc ≤ V.cntV l qa)) := rfl
  rw [unhide HE]
  obtain ⟨N, hN⟩ : ∃ N, N = u.heap.size := ⟨_, rfl⟩
  have HN := hide hN
  rw [← hN] at HC ⊢
  clear hN h HE
  generalize V.cntV l qa = m at *
  generalize l.length = n at *
  by_cases h1 : 1 ≤ qc
  · have h1i : (1 : Int) ≤ (qc : Int) := by omega
    obtain ⟨r, hr⟩ : ∃ r, r = decide (qc ≤ m) := ⟨_, rfl⟩
    have HR : Hid (decide (1 ≤ qc ∧ qc ≤ m) = r) := by rw [hr]; simp [h1, Hid]
    rw [unhide HR]
    have hr2 : decide ((qc : Int) ≤ (m : Int)) = r := by rw [hr]; simp
    have hr3 : decide (qc ≤ m) = r := hr.symm
    clear hr HR
    go_enter Try.func93, Try.ntmps93
    go_wp2_with (first
      | ((with_reducible refine wpList_box_dot (by rfl) (.tmp 1) (by rfl) (some 3) (by rfl) N (unhide HN) (qa : Int) (qc : Int) (by with_unfolding_all rfl) ?_); intro W1 HX1 HB1 HS1; simp only [Act.put, List.setIfInBounds_toArray, List.set_cons_zero, List.set_cons_succ]; obtain ⟨y0, y1⟩ := box2 (unhide HX1))
      | fail)
    go_region_held3 (fun v => v.cell? ⟨N, 0, none⟩ = some (.int .u32 (qa : Int)) ∧ v.cell? ⟨N, 1, none⟩ = some (.int .u64 (qc : Int))) (first | exact ⟨y0, y1⟩ | exact ⟨z0, z1⟩ | (go_keep; done)) (first
      | (go_at_call 92; refine (unhide HC _ (belowDrew (unhide HB1))).mono ?_; rintro e w2 ⟨rfl, z, hz⟩; have HX2 : Hid (w2.heap[N]? = _) := (by rw [hz]; exact unhide HX1); obtain ⟨z0, z1⟩ := box2 (unhide HX2); have HB2 : Hid (Below N u w2) := (by rw [hz]; exact belowDrewN (belowDrew (unhide HB1)) _); clear hz)
      | fail)
    go_wp2
    go_ret
    exact ⟨rfl, unhide HB2⟩
  · have h1i : ¬ (1 : Int) ≤ (qc : Int) := by omega
    have HR : Hid (decide (1 ≤ qc ∧ qc ≤ m) = false) := by simp only [Hid, decide_eq_false_iff_not]; omega
    rw [unhide HR]
    have hr2 : decide ((1 : Int) ≤ (qc : Int)) = false := decide_eq_false h1i
    have hr3 : decide (1 ≤ qc) = false := decide_eq_false h1
    clear HR h1i h1
    go_enter Try.func93, Try.ntmps93
    go_wp2_with (first
      | ((with_reducible refine wpList_box_dot (by rfl) (.tmp 1) (by rfl) (some 3) (by rfl) N (unhide HN) (qa : Int) (qc : Int) (by with_unfolding_all rfl) ?_); intro W1 HX1 HB1 HS1; simp only [Act.put, List.setIfInBounds_toArray, List.set_cons_zero, List.set_cons_succ]; obtain ⟨y0, y1⟩ := box2 (unhide HX1))
      | fail)
    go_quiet (fail)
    go_wp2
    go_ret
    exact ⟨rfl, belowDrewN (unhide HB1) _⟩
theorem bel_at {a b : List (Nat × Nat)} (ha : V.Ok a) (hb : V.Ok b) : belB a b = true ↔ ∀ j (hj : j < a.length), a[j].2 ≤ V.cntV b a[j].1 := by
  have hc : ∀ x, V.cntV b x = V.cnt b x := fun x => by unfold V.cntV; rw [V.okB_true.2 hb]; rfl
  rw [belB_true ha hb]
  constructor
  · intro h j hj
    rw [hc, ← V.cnt_mem ha.up (List.getElem_mem hj)]
    exact h _
  · intro h k
    by_cases h0 : V.cnt a k = 0
    · omega
    · obtain ⟨d, hd, h1, h2⟩ := V.cnt_pos h0
      obtain ⟨j, hj, rfl⟩ := List.getElem_of_mem hd
      have := h j hj
      rw [hc, h1] at this
      omega
end Go.Proofs.Ytkcbljmjhlnjpaa
