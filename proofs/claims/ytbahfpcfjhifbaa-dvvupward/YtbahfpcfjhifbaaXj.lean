/- Vectors: Max, Below, Compare. -/
import Derived.Test.YtbahfpcfjhifbaaXi
namespace Go.Proofs.Ytbahfpcfjhifbaa
open Go.RowKit

/-- dots in memory, behind a slice -/
structure Da (w : World) (l : List (Nat × Nat)) (ao : Option Addr) (c : Nat) : Prop extends Dv w l ao c where
  fits : Fits l
  len : l.length ≤ 8796093021952
theorem Da.below {w w' : World} {l : List (Nat × Nat)} {ao : Option Addr} {c : Nat} (h : Da w l ao c) (hb : Below w.heap.size w w') : Da w' l ao c := ⟨h.toDv.below hb, h.fits, h.len⟩
theorem Da.at {w : World} {l : List (Nat × Nat)} {ao : Option Addr} {c : Nat} (h : Da w l ao c) : DAt w l ao := ⟨h.lies, h.fits, Nat.le_trans h.len (by decide)⟩
theorem len_da {l : List (Nat × Nat)} (h : l.length ≤ 128) : l.length ≤ 8796093021952 := by omega
theorem fits_mrg {a b : List (Nat × Nat)} (ha : Fits a) (hb : Fits b) : Fits (V.mrg a b) := by
  induction a, b using V.mrg.induct with
  | case1 b => rw [V.nil_mrg]; exact hb
  | case2 x a => rw [V.mrg_nil]; exact ha
  | case3 x a y b h ih =>
    rw [V.mrg, if_pos h]
    intro d hd
    rcases List.mem_cons.1 hd with rfl | hd
    · exact ha _ (List.mem_cons_self ..)
    · exact ih (fun d hd => ha d (List.mem_cons_of_mem _ hd)) hb d hd
  | case4 x a y b h h2 ih =>
    rw [V.mrg, if_neg h, if_pos h2]
    intro d hd
    rcases List.mem_cons.1 hd with rfl | hd
    · exact hb _ (List.mem_cons_self ..)
    · exact ih ha (fun d hd => hb d (List.mem_cons_of_mem _ hd)) d hd
  | case5 x a y b h h2 ih =>
    rw [V.mrg, if_neg h, if_neg h2]
    intro d hd
    rcases List.mem_cons.1 hd with rfl | hd
    · unfold V.later; split
      · exact hb _ (List.mem_cons_self ..)
      · exact ha _ (List.mem_cons_self ..)
    · exact ih (fun d hd => ha d (List.mem_cons_of_mem _ hd)) (fun d hd => hb d (List.mem_cons_of_mem _ hd)) d hd
/-- what Max answers -/
noncomputable def maxV (a b : List (Nat × Nat)) : List (Nat × Nat) × Int := if V.okB a && V.okB b then (if (V.mrg a b).length ≤ 64 then (V.mrg a b, 0) else ([], 82)) else ([], 100)
set_option maxRecDepth 100000 in
set_option maxHeartbeats 2000000 in
theorem vMax (a b : List (Nat × Nat)) (aa ba : Option Addr) (ca cb : Nat) (u : World) (ha : Da u a aa ca) (hb : Da u b ba cb) :
    Calls Try.prog 54 #[.slice aa a.length ca, .slice ba b.length cb] u fun e u' => ∃ ao c, e = .returned (.tuple #[.slice ao (maxV a b).1.length c, .int .i64 (maxV a b).2]) ∧ OwnD u' u.heap.size (maxV a b).1 ao c ∧ Below u.heap.size u u' := by
  have HV := hide (vValid a aa ca u ha.at)
  have HW := hide (fun (w : World) (hw : Below u.heap.size u w) => vValid b ba cb w (hb.below hw).at)
  have HE : Hid (∀ w : World, OwnD w u.heap.size [] none 0) := fun w => World.ownsRow_nil _ _ _ _
  cases h1 : V.okB a with
  | false =>
    rw [show maxV a b = ([], 100) by unfold maxV; rw [h1]; rfl]
    rw [h1] at HV
    clear ha hb HW
    go_enter Try.func54, Try.ntmps54
    go_wp2_with (first | (go_at_call 39; refine (unhide HV).mono ?_; rintro e w1 ⟨rfl, hb1⟩) | fail)
    go_ret2
    exact ⟨none, 0, rfl, unhide HE _, hb1⟩
  | true =>
    rw [h1] at HV
    cases h2 : V.okB b with
    | false =>
      rw [show maxV a b = ([], 100) by unfold maxV; rw [h1, h2]; rfl]
      rw [h2] at HW
      clear ha hb
      obtain ⟨N, hN⟩ : ∃ N, N = u.heap.size := ⟨_, rfl⟩
      have HN := hide hN
      rw [← hN] at HV HW HE ⊢
      clear hN
      go_enter Try.func54, Try.ntmps54
      go_wp2_with (first
        | (go_at_call_of 39 (Value.slice aa a.length ca); refine (unhide HV).mono ?_; rintro e w1 ⟨rfl, hb1⟩; have HB1 := hide hb1; clear hb1 HV)
        | (go_at_call 39; refine (unhide HW _ (unhide HB1)).mono ?_; rintro e w2 ⟨rfl, hb2⟩; have HB2 : Hid (Below N u w2) := (unhide HB1).trans (hb2.mono (by rw [unhide HN]; exact (unhide HB1).size)); clear hb2)
        | fail)
      go_ret2
      exact ⟨none, 0, rfl, unhide HE _, unhide HB2⟩
    | true =>
      have ok1 := V.okB_true.1 h1
      have ok2 := V.okB_true.1 h2
      rw [show maxV a b = (if (V.mrg a b).length ≤ 64 then (V.mrg a b, 0) else ([], 82)) by unfold maxV; rw [h1, h2]; rfl]
      rw [h2] at HW
      have HM := hide (fun (w : World) (hw : Below u.heap.size u w) => vMost a b aa ba ca cb w (ha.below hw).toDv (hb.below hw).toDv ok1.len ok2.len)
      have hml := V.mrg_len_le a b
      have hml2 : (V.mrg a b).length ≤ 128 := by have := ok1.len; have := ok2.len; omega
      clear ha hb ok1 ok2 h1 h2 hml
      obtain ⟨N, hN⟩ : ∃ N, N = u.heap.size := ⟨_, rfl⟩
      have HN := hide hN
      rw [← hN] at HV HW HE HM ⊢
      clear hN
      generalize V.mrg a b = m at *
      have hmi : (m.length : Int) ≤ 128 := by omega
      by_cases h64 : m.length ≤ 64
      · rw [if_pos h64]
        have h64i : ¬ (64 : Int) < (m.length : Int) := by omega
        show Calls Try.prog 54 #[.slice aa a.length ca, .slice ba b.length cb] u fun e u' => ∃ ao c, e = .returned (.tuple #[.slice ao m.length c, .int .i64 0]) ∧ OwnD u' N m ao c ∧ Below N u u'
        go_enter Try.func54, Try.ntmps54
        go_wp2_with (first
          | (go_at_call_of 39 (Value.slice aa a.length ca); refine (unhide HV).mono ?_; rintro e w1 ⟨rfl, hb1⟩; have HB1 := hide hb1; clear hb1 HV)
          | (go_at_call 39; refine (unhide HW _ (unhide HB1)).mono ?_; rintro e w2 ⟨rfl, hb2⟩; have HB2 : Hid (Below N u w2) := (unhide HB1).trans (hb2.mono (by rw [unhide HN]; exact (unhide HB1).size)); clear hb2)
          | (go_at_call 75; refine (unhide HM _ (unhide HB2)).mono ?_; rintro e w3 ⟨ao, c, rfl, ho3, hb3⟩; have HB3 : Hid (Below N u w3) := (unhide HB2).trans (hb3.mono (by rw [unhide HN]; exact (unhide HB2).size)); have HO3 : Hid (OwnD w3 N m ao c) := own_down ho3 (by rw [unhide HN]; exact (unhide HB2).size); clear hb3 ho3)
          | fail)
        go_ret2
        exact ⟨ao, c, rfl, unhide HO3, unhide HB3⟩
      · rw [if_neg h64]
        have h64i : (64 : Int) < (m.length : Int) := by omega
        show Calls Try.prog 54 #[.slice aa a.length ca, .slice ba b.length cb] u fun e u' => ∃ ao c, e = .returned (.tuple #[.slice ao 0 c, .int .i64 82]) ∧ OwnD u' N [] ao c ∧ Below N u u'
        go_enter Try.func54, Try.ntmps54
        go_wp2_with (first
          | (go_at_call_of 39 (Value.slice aa a.length ca); refine (unhide HV).mono ?_; rintro e w1 ⟨rfl, hb1⟩; have HB1 := hide hb1; clear hb1 HV)
          | (go_at_call 39; refine (unhide HW _ (unhide HB1)).mono ?_; rintro e w2 ⟨rfl, hb2⟩; have HB2 : Hid (Below N u w2) := (unhide HB1).trans (hb2.mono (by rw [unhide HN]; exact (unhide HB1).size)); clear hb2)
          | (go_at_call 75; refine (unhide HM _ (unhide HB2)).mono ?_; rintro e w3 ⟨ao, c, rfl, ho3, hb3⟩; have HB3 : Hid (Below N u w3) := (unhide HB2).trans (hb3.mono (by rw [unhide HN]; exact (unhide HB2).size)); clear hb3 ho3)
          | fail)
        go_ret2
        exact ⟨none, 0, rfl, unhide HE _, unhide HB3⟩
end Go.Proofs.Ytbahfpcfjhifbaa
