/- Vectors: Below, Compare. -/
import Derived.Test.YtbahfpcfjhifbaaXj
namespace Go.Proofs.Ytbahfpcfjhifbaa
open Go.RowKit
/-- what Below answers -/
noncomputable def belB (a b : List (Nat × Nat)) : Bool := V.okB a && V.okB b && decide (V.mrg a b = b)
open Classical in
theorem belB_iff {a b : List (Nat × Nat)} : belB a b = decide (V.Ok a ∧ V.Ok b ∧ V.Bel a b) := by
  rw [Bool.eq_iff_iff]
  unfold belB
  rw [Bool.and_eq_true, Bool.and_eq_true, V.okB_true, V.okB_true, decide_eq_true_iff, decide_eq_true_iff]
  constructor
  · rintro ⟨⟨h1, h2⟩, h3⟩; exact ⟨h1, h2, (V.mrg_eq_iff h1.toVec h2.toVec).1 h3⟩
  · rintro ⟨h1, h2, h3⟩; exact ⟨⟨h1, h2⟩, (V.mrg_eq_iff h1.toVec h2.toVec).2 h3⟩
open Classical in
theorem belB_true {a b : List (Nat × Nat)} (h1 : V.Ok a) (h2 : V.Ok b) : belB a b = true ↔ V.Bel a b := by
  rw [belB_iff, decide_eq_true_iff]
  exact ⟨fun h => h.2.2, fun h => ⟨h1, h2, h⟩⟩
theorem len_small {l : List (Nat × Nat)} (h : l.length ≤ 128) : l.length ≤ 140737488355328 := by omega
set_option maxRecDepth 100000 in
set_option maxHeartbeats 2000000 in
theorem vBelow (a b : List (Nat × Nat)) (aa ba : Option Addr) (ca cb : Nat) (u : World) (ha : Da u a aa ca) (hb : Da u b ba cb) :
    Calls Try.prog 36 #[.slice aa a.length ca, .slice ba b.length cb] u fun e u' => e = .returned (.bool (belB a b)) ∧ Below u.heap.size u u' := by
  have HV := hide (vValid a aa ca u ha.at)
  have HW := hide (fun (w : World) (hw : Below u.heap.size u w) => vValid b ba cb w (hb.below hw).at)
  cases h1 : V.okB a with
  | false =>
    rw [show belB a b = false by unfold belB; rw [h1]; rfl]
    rw [h1] at HV
    clear ha hb HW
    go_enter Try.func36, Try.ntmps36
    go_wp2_with (first | (go_at_call 39; refine (unhide HV).mono ?_; rintro e w1 ⟨rfl, hb1⟩) | fail)
    go_ret
    exact ⟨rfl, hb1⟩
  | true =>
    rw [h1] at HV
    cases h2 : V.okB b with
    | false =>
      rw [show belB a b = false by unfold belB; rw [h1, h2]; rfl]
      rw [h2] at HW
      clear ha hb
      obtain ⟨N, hN⟩ : ∃ N, N = u.heap.size := ⟨_, rfl⟩
      have HN := hide hN
      rw [← hN] at HV HW ⊢
      clear hN
      go_enter Try.func36, Try.ntmps36
      go_wp2_with (first
        | (go_at_call_of 39 (Value.slice aa a.length ca); refine (unhide HV).mono ?_; rintro e w1 ⟨rfl, hb1⟩; have HB1 := hide hb1; clear hb1 HV)
        | (go_at_call 39; refine (unhide HW _ (unhide HB1)).mono ?_; rintro e w2 ⟨rfl, hb2⟩; have HB2 : Hid (Below N u w2) := (unhide HB1).trans (hb2.mono (by rw [unhide HN]; exact (unhide HB1).size)); clear hb2)
        | fail)
      go_ret
      exact ⟨rfl, unhide HB2⟩
    | true =>
      have ok1 := V.okB_true.1 h1
      have ok2 := V.okB_true.1 h2
      rw [show belB a b = decide (V.mrg a b = b) by unfold belB; rw [h1, h2]; rfl]
      rw [h2] at HW
      have HM := hide (fun (w : World) (hw : Below u.heap.size u w) => vMost a b aa ba ca cb w (ha.below hw).toDv (hb.below hw).toDv ok1.len ok2.len)
      have hml := V.mrg_len_le a b
      have hml2 : (V.mrg a b).length ≤ 128 := by have := ok1.len; have := ok2.len; omega
      have HQ : Hid (∀ (w : World) (ao : Option Addr) (c : Nat), Below u.heap.size u w → OwnD w u.heap.size (V.mrg a b) ao c → Calls Try.prog 46 #[.slice ao (V.mrg a b).length c, .slice ba b.length cb] w fun e w' => e = .returned (.bool (decide (V.mrg a b = b))) ∧ ∃ z, w' = w.drewN z) := fun w ao c hw ho => vEqual (V.mrg a b) b ao ba c cb w ⟨ho.dv.lies, fits_mrg ha.fits hb.fits, len_small hml2⟩ (hb.below hw).at
      clear ha hb ok1 ok2 h1 h2 hml
      obtain ⟨N, hN⟩ : ∃ N, N = u.heap.size := ⟨_, rfl⟩
      have HN := hide hN
      rw [← hN] at HV HW HM HQ ⊢
      clear hN
      generalize decide (V.mrg a b = b) = r at *
      generalize V.mrg a b = m at *
      go_enter Try.func36, Try.ntmps36
      go_wp2_with (first
        | (go_at_call_of 39 (Value.slice aa a.length ca); refine (unhide HV).mono ?_; rintro e w1 ⟨rfl, hb1⟩; have HB1 := hide hb1; clear hb1 HV)
        | (go_at_call 39; refine (unhide HW _ (unhide HB1)).mono ?_; rintro e w2 ⟨rfl, hb2⟩; have HB2 : Hid (Below N u w2) := (unhide HB1).trans (hb2.mono (by rw [unhide HN]; exact (unhide HB1).size)); clear hb2)
        | (go_at_call 75; refine (unhide HM _ (unhide HB2)).mono ?_; rintro e w3 ⟨ao, c, rfl, ho3, hb3⟩; have HB3 : Hid (Below N u w3) := (unhide HB2).trans (hb3.mono (by rw [unhide HN]; exact (unhide HB2).size)); have HO3 : Hid (OwnD w3 N m ao c) := own_down ho3 (by rw [unhide HN]; exact (unhide HB2).size); clear hb3 ho3)
        | (go_at_call 46; refine (unhide HQ _ _ _ (unhide HB3) (unhide HO3)).mono ?_; rintro e w4 ⟨rfl, z, rfl⟩)
        | fail)
      go_ret
      exact ⟨rfl, belowDrewN (unhide HB3) _⟩
/-- what Compare answers -/
noncomputable def cmpV (a b : List (Nat × Nat)) : Int := if belB a b then (if belB b a then 0 else -1) else (if belB b a then 1 else 2)
end Go.Proofs.Ytbahfpcfjhifbaa
