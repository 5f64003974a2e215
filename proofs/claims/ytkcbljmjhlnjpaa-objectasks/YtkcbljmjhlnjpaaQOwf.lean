/- Objects, the document's side: Form, Sum. -/
import Derived.Test.YtkcbljmjhlnjpaaQOwb
namespace Go.Proofs.Ytkcbljmjhlnjpaa
open Go.RowKit Go.Lib
theorem form_small {o : Ot} (hc : ckE o = 0) : (textB o.key).length ≤ 1000 ∧ (stB o.st).length ≤ 280 ∧ (formB o).size ≤ 2000 := by
  obtain ⟨h1, -, h2⟩ := ck_zero.1 hc
  have h3 := (uintB_len 9 o.key.size).2
  have h4 : (textB o.key).length ≤ 1000 := by
    unfold textB
    rw [List.length_append]
    have : o.key.data.toList.length = o.key.size := rfl
    omega
  refine ⟨h4, h2, ?_⟩
  unfold formB
  split
  · exact Nat.zero_le _
  · show (79 :: (textB o.key ++ stB o.st)).toArray.size ≤ 2000
    rw [List.size_toArray, List.length_cons, List.length_append]
    omega
theorem form_some {o : Ot} (h : o.st.seen.length ≠ 0) : formB o = ⟨(79 :: (textB o.key ++ stB o.st)).toArray⟩ := by unfold formB; rw [if_neg h]
theorem form_none {o : Ot} (h : o.st.seen.length = 0) : formB o = eB := by unfold formB; rw [if_pos h]
set_option maxRecDepth 100000 in
set_option maxHeartbeats 4000000 in
theorem qForm {u : World} {o : Ot} {v : Sv} {n m : Nat} (h : Sx u o.st v n m) (x : ByteArray) (r : Int) (hx : formV o = (x, r)) : Calls Try.prog 38 #[obV o.key v n m] u fun e u' => e = .returned (.tuple #[.string x, .int .i64 r]) ∧ Below u.heap.size u u' := by
  obtain ⟨N, hN⟩ : ∃ N, N = u.heap.size := ⟨_, rfl⟩
  have HN := hide hN
  have HU : Hid (∀ G : World, Below N u G → Sx G o.st v n m) := fun G hG => h.below (by rw [← unhide HN]; exact hG)
  have hen := h.en
  have hem := h.em
  have hnf := h.few
  have hmf := h.few2
  rw [← hN]
  clear hN h
  by_cases hc : ckE o = 0
  · obtain ⟨hk, hs, hl⟩ := ck_zero.1 hc
    have HCK : Hid (∀ G : World, Sx G o.st v n m → Calls Try.prog 36 #[obV o.key v n m] G fun e u' => e = .returned (.int .i64 0) ∧ Below G.heap.size G u') := fun G hG => qCheck hG 0 hc
    have hp : formV o = (formB o, 0) := by unfold formV; rw [if_pos hc]
    rw [hp] at hx
    by_cases h0 : n = 0
    · have hm0 : m = 0 := by rw [hem]; exact sok_none hs (by rw [← hen]; exact h0)
      rw [form_none (by rw [← hen]; exact h0)] at hx
      cases hx
      have HAB : Hid (∀ G : World, Calls Try.prog 73 #[obV o.key v n m] G fun e u' => e = .returned (.bool true) ∧ Below G.heap.size G u') := fun G => by
        have := qAbsent o.key v n m hnf hmf G
        rwa [decide_eq_true h0, decide_eq_true hm0] at this
      clear hc hk hs hl hm0 hp hen hem h0 hnf hmf
      go_enter Try.func38, Try.ntmps38
      go_wp2_with (first
        | ((with_reducible refine wpList_box_ob (by rfl) (.tmp 0) (by rfl) (some 1) (by rfl) N (unhide HN) o.key v n m (by with_unfolding_all rfl) ?_); intro W1 HX1 HBU HS1; simp only [Act.put, List.setIfInBounds_toArray, List.set_cons_zero, List.set_cons_succ]; have HLX : Hid (Lo W1 N o v n m) := ⟨unhide HU _ (unhide HBU), unhide HX1⟩; have HNS : Hid (N ≤ W1.heap.size) := (by show N ≤ W1.heap.size; rw [unhide HS1]; omega); clear HX1 HS1; obtain ⟨c0, c1, c2⟩ := (unhide HLX).cells)
        | (go_at_call 36; refine (unhide HCK _ (unhide HLX).toSx).mono ?_; rintro e W3 ⟨rfl, hb⟩; clear c0 c1 c2; replace HLX := hide ((unhide HLX).below hb); replace HBU : Hid (Below N u W3) := (unhide HBU).trans (hb.mono (unhide HNS)); replace HNS : Hid (N ≤ W3.heap.size) := Nat.le_trans (unhide HNS) hb.size; clear hb; obtain ⟨c0, c1, c2⟩ := (unhide HLX).cells)
        | (go_at_call 73; refine (unhide HAB _).mono ?_; rintro e W4 ⟨rfl, hb⟩; clear c0 c1 c2; replace HBU : Hid (Below N u W4) := (unhide HBU).trans (hb.mono (unhide HNS)); clear hb)
        | fail)
      go_ret2
      exact ⟨rfl, unhide HBU⟩
    · have HAB : Hid (∀ G : World, Calls Try.prog 73 #[obV o.key v n m] G fun e u' => e = .returned (.bool false) ∧ Below G.heap.size G u') := fun G => by
        have := qAbsent o.key v n m hnf hmf G
        rwa [decide_eq_false h0] at this
      have hsm := form_small hc
      rw [form_some (by rw [← hen]; exact h0)] at hx
      have hxx := (Prod.mk.inj hx).1
      have hrr := (Prod.mk.inj hx).2
      subst hrr
      have HE := hide (encT_ok hs)
      have HTX : Hid (∀ G : World, Calls Try.prog 74 #[.string o.key] G fun e w' => e = .returned (.string ⟨(textB o.key).toArray⟩) ∧ Below G.heap.size G w') := fun G => W.mwText o.key G (by omega)
      have q1 := catL [79] (textB o.key) (by decide) (by omega)
      have q2 := catL (79 :: textB o.key) (stB o.st) (by rw [List.length_cons]; omega) (by omega)
      have hcat1 : ∀ G : World, (Op.stringOp .add ⟨#[79]⟩ ⟨(textB o.key).toArray⟩).run Try.prog G = .ok (.string ⟨(79 :: textB o.key).toArray⟩) G := q1
      have hcat2 : ∀ G : World, (Op.stringOp .add ⟨(79 :: textB o.key).toArray⟩ ⟨(stB o.st).toArray⟩).run Try.prog G = .ok (.string x) G := by rw [← hxx]; exact q2
      clear q1 q2
      generalize (⟨(79 :: textB o.key).toArray⟩ : ByteArray) = C1 at *
      generalize (⟨(stB o.st).toArray⟩ : ByteArray) = b at *
      generalize (⟨(textB o.key).toArray⟩ : ByteArray) = tx at *
      clear hc hk hs hl hp hen hem h0 hnf hmf hxx hx hsm
      go_enter Try.func38, Try.ntmps38
      go_wp2_with (first
        | ((with_reducible refine wpList_box_ob (by rfl) (.tmp 0) (by rfl) (some 1) (by rfl) N (unhide HN) o.key v n m (by with_unfolding_all rfl) ?_); intro W1 HX1 HBU HS1; simp only [Act.put, List.setIfInBounds_toArray, List.set_cons_zero, List.set_cons_succ]; have HLX : Hid (Lo W1 N o v n m) := ⟨unhide HU _ (unhide HBU), unhide HX1⟩; have HNS : Hid (N ≤ W1.heap.size) := (by show N ≤ W1.heap.size; rw [unhide HS1]; omega); clear HX1 HS1; obtain ⟨c0, c1, c2⟩ := (unhide HLX).cells)
        | (go_at_call 36; refine (unhide HCK _ (unhide HLX).toSx).mono ?_; rintro e W3 ⟨rfl, hb⟩; clear c0 c1 c2; replace HLX := hide ((unhide HLX).below hb); replace HBU : Hid (Below N u W3) := (unhide HBU).trans (hb.mono (unhide HNS)); replace HNS : Hid (N ≤ W3.heap.size) := Nat.le_trans (unhide HNS) hb.size; clear hb; obtain ⟨c0, c1, c2⟩ := (unhide HLX).cells)
        | (go_at_call 73; refine (unhide HAB _).mono ?_; rintro e W4 ⟨rfl, hb⟩; clear c0 c1 c2; replace HLX := hide ((unhide HLX).below hb); replace HBU : Hid (Below N u W4) := (unhide HBU).trans (hb.mono (unhide HNS)); replace HNS : Hid (N ≤ W4.heap.size) := Nat.le_trans (unhide HNS) hb.size; clear hb; obtain ⟨c0, c1, c2⟩ := (unhide HLX).cells)
        | (go_at_call 71; refine (kqEnc (unhide HLX).toSx (unhide HE)).mono ?_; rintro e W5 ⟨rfl, hb⟩; clear c0 c1 c2; replace HLX := hide ((unhide HLX).below hb); replace HBU : Hid (Below N u W5) := (unhide HBU).trans (hb.mono (unhide HNS)); replace HNS : Hid (N ≤ W5.heap.size) := Nat.le_trans (unhide HNS) hb.size; clear hb; obtain ⟨c0, c1, c2⟩ := (unhide HLX).cells)
        | (go_at_call 74; refine (unhide HTX _).mono ?_; rintro e W6 ⟨rfl, hb⟩; clear c0 c1 c2; replace HBU : Hid (Below N u W6) := (unhide HBU).trans (hb.mono (unhide HNS)); clear hb)
        | fail)
      go_ret2
      exact ⟨rfl, unhide HBU⟩
  · have hp : formV o = (eB, ckE o) := by unfold formV; rw [if_neg hc]
    rw [hp] at hx
    cases hx
    have HCK : Hid (∀ G : World, Sx G o.st v n m → Calls Try.prog 36 #[obV o.key v n m] G fun e u' => e = .returned (.int .i64 (ckE o)) ∧ Below G.heap.size G u') := fun G hG => qCheck hG _ rfl
    generalize ckE o = ce at *
    have hcb : (ce == 0) = false := by simpa using hc
    clear hp hen hem hnf hmf
    go_enter Try.func38, Try.ntmps38
    go_wp2_with (first
      | ((with_reducible refine wpList_box_ob (by rfl) (.tmp 0) (by rfl) (some 1) (by rfl) N (unhide HN) o.key v n m (by with_unfolding_all rfl) ?_); intro W1 HX1 HBU HS1; simp only [Act.put, List.setIfInBounds_toArray, List.set_cons_zero, List.set_cons_succ]; have HLX : Hid (Lo W1 N o v n m) := ⟨unhide HU _ (unhide HBU), unhide HX1⟩; have HNS : Hid (N ≤ W1.heap.size) := (by show N ≤ W1.heap.size; rw [unhide HS1]; omega); clear HX1 HS1; obtain ⟨c0, c1, c2⟩ := (unhide HLX).cells)
      | (go_at_call 36; refine (unhide HCK _ (unhide HLX).toSx).mono ?_; rintro e W3 ⟨rfl, hb⟩; clear c0 c1 c2; replace HBU : Hid (Below N u W3) := (unhide HBU).trans (hb.mono (unhide HNS)); clear hb)
      | fail)
    go_ret2
    exact ⟨rfl, unhide HBU⟩
end Go.Proofs.Ytkcbljmjhlnjpaa
