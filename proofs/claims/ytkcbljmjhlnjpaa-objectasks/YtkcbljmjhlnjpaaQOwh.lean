/- Objects: Entry on both sides, Same of the document. Written by mkowh.py. -/
import Derived.Test.YtkcbljmjhlnjpaaQOwg
import Derived.Test.YtkcbljmjhlnjpaaQZad
namespace Go.Proofs.Ytkcbljmjhlnjpaa
open Go.RowKit Go.Lib
/-- an entry in a variable -/
def enRow (k x : ByteArray) : Obj := .cells #[.string k, .string x] 71 (0, 0)
theorem zeroEn : ((Try.prog.info? 71).bind (·.zero)).map (·.cells) = some #[.string ⟨#[]⟩, .string ⟨#[]⟩] := by kernel_rfl
theorem enInfo : (Try.prog.info? 71).map (·.size) = some 2 := by kernel_rfl
theorem enUnd : Try.prog.underlying 71 = some (.struct (match Try.prog.underlying 71 with | some (.struct fs) => fs | _ => #[])) := by kernel_rfl
theorem en_cells {W : World} {N : Nat} {k x : ByteArray} (h : W.heap[N]? = some (enRow k x)) : W.cell? ⟨N, 0, none⟩ = some (.string k) ∧ W.cell? ⟨N, 1, none⟩ = some (.string x) := box2 h
theorem wpList_alloc_en {ops : Array Oper} {rest : List Oper} {o : Oper} {a : Act} {w : World} {Q : Exit → Act → World → Prop} (hg : o.guard = none) (ho : o.op = .alloc 71) (d : Option Tmp) (hd : o.dst = d) (N : Nat) (hN : N = w.heap.size)
    (h : ∀ w', Hid (w'.heap[N]? = some (enRow ⟨#[]⟩ ⟨#[]⟩)) → Hid (Below N w w') → Hid (w'.heap.size = N + 1) → wpList Try.prog ops Q rest (a.put d (.pointer (some ⟨N, 0, none⟩))) w') : wpList Try.prog ops Q (o :: rest) a w :=
  wpList_alloc_row hg _ ho d hd N hN.symm _ zeroEn h
theorem wpList_store_en {ops : Array Oper} {rest : List Oper} {o : Oper} {a : Act} {w : World} {Q : Exit → Act → World → Prop} (hgd : o.guard = none) (x y : Operand) (ho : o.op = .store 71 x y) (g : Nat) (k z : ByteArray) (hx : a.eval x = .pointer (some ⟨g, 0, none⟩)) (hy : a.eval y = .agg #[.string k, .string z])
    (k0 z0 : ByteArray) (hg : w.heap[g]? = some (enRow k0 z0))
    (h : ∀ w', Hid (w'.heap[g]? = some (enRow k z)) → Hid (w' = w.setRow g #[.string k, .string z]) → wpList Try.prog ops Q rest (a.put o.dst undef) w') : wpList Try.prog ops Q (o :: rest) a w :=
  wpList_store_hid hgd _ x y ho g _ hx hy _ _ hg enInfo rfl (ce_one _ _) h
/- equality of cells -/
noncomputable def enF (i : Nat) : Field := (Try.prog.fieldsOf 71).getD i default
theorem enFs : (Try.prog.fieldsOf 71).toList = [enF 0, enF 1] := by kernel_rfl
theorem enm0 : (enF 0).name ≠ "_" := of_decide_eq_true (by kernel_rfl)
theorem enm1 : (enF 1).name ≠ "_" := of_decide_eq_true (by kernel_rfl)
section
variable (a b c d : ByteArray) (u : World)
theorem ept0 : (part (enF 0).type #[.string a, .string b] (enF 0).offset).run Try.prog u = .ok (.string a) u := by kernel_rfl
theorem ept1 : (part (enF 1).type #[.string a, .string b] (enF 1).offset).run Try.prog u = .ok (.string b) u := by kernel_rfl
theorem eeq0 : (Op.equalIn 9999 (enF 0).type (.string a) (.string b)).run Try.prog u = .ok (a.toList == b.toList) u := run_equalIn_string u 9998 (enF 0).type a b (by kernel_rfl)
theorem eeq1 : (Op.equalIn 9999 (enF 1).type (.string a) (.string b)).run Try.prog u = .ok (a.toList == b.toList) u := run_equalIn_string u 9998 (enF 1).type a b (by kernel_rfl)
theorem eeqFs : (Op.eqFields 9999 #[.string a, .string b] #[.string c, .string d] (Try.prog.fieldsOf 71).toList).run Try.prog u = .ok ((a.toList == c.toList) && (b.toList == d.toList)) u := by
  rw [enFs]
  have h1 : (Op.eqFields 9999 #[.string a, .string b] #[.string c, .string d] [enF 1]).run Try.prog u = .ok (b.toList == d.toList) u := by
    simp only [Op.eqFields, if_pos enm1, Sem.run_bind, ept1, eeq1, Result.andThen_ok]
    cases (b.toList == d.toList) <;> simp
  rw [Op.eqFields, if_pos enm0]
  simp only [Sem.run_bind, ept0, eeq0, Result.andThen_ok]
  cases (a.toList == c.toList)
  · simp
  · simp only [Bool.not_true, Bool.false_eq_true, if_false, Bool.true_and]
    exact h1
theorem eqlEn : (binOp .eql 71 (.agg #[.string a, .string b]) (.agg #[.string c, .string d])).run Try.prog u = .ok (.bool ((a.toList == c.toList) && (b.toList == d.toList))) u := by
  rw [run_eql_struct, run_equalIn_agg u 9999 71 _ _ (by kernel_rfl) (by kernel_rfl), eeqFs]
  rfl
theorem neqEn : (binOp .neq 71 (.agg #[.string a, .string b]) (.agg #[.string c, .string d])).run Try.prog u = .ok (.bool (!((a.toList == c.toList) && (b.toList == d.toList)))) u := by
  rw [run_neq_struct, run_equalIn_agg u 9999 71 _ _ (by kernel_rfl) (by kernel_rfl), eeqFs]
  rfl
end
/-- what Entry answers -/
noncomputable def entV (o : Ot) (wd : Int) : ByteArray × ByteArray × Int := if (sumV o wd).2 = 0 then (if o.st.seen.length = 0 then (eB, eB, 110) else (o.key, (sumV o wd).1, 0)) else (eB, eB, (sumV o wd).2)
theorem sum_ck {o : Ot} {wd : Int} (h : (sumV o wd).2 = 0) : ckE o = 0 := by
  by_cases hc : ckE o = 0
  · exact hc
  · unfold sumV at h
    rw [if_neg hc] at h
    exact absurd h hc
set_option maxRecDepth 100000 in
set_option maxHeartbeats 4000000 in
theorem oEntry {u : World} {o : Ot} {v : Sv} {n m : Nat} (h : Sx u o.st v n m) (wd : Int) (x z : ByteArray) (r : Int) (hx : entV o wd = (x, z, r)) : Calls Try.prog 41 #[obV o.key v n m, .int .i64 wd] u fun e u' => e = .returned (.tuple #[.agg #[.string x, .string z], .int .i64 r]) ∧ Below u.heap.size u u' := by
  obtain ⟨N, hN⟩ : ∃ N, N = u.heap.size := ⟨_, rfl⟩
  have HN := hide hN
  have HU : Hid (∀ G : World, Below N u G → Sx G o.st v n m) := fun G hG => h.below (by rw [← unhide HN]; exact hG)
  have hen := h.en
  have hem := h.em
  have hnf := h.few
  have hmf := h.few2
  rw [← hN]
  clear hN h
  obtain ⟨sb, sr, hs⟩ : ∃ sb sr, sumV o wd = (sb, sr) := ⟨_, _, rfl⟩
  have HSU : Hid (∀ G : World, Sx G o.st v n m → Calls Try.prog 32 #[obV o.key v n m, .int .i64 wd] G fun e u' => e = .returned (.tuple #[.string sb, .int .i64 sr]) ∧ Below G.heap.size G u') := fun G hG => oSum hG wd _ _ hs
  by_cases hr0 : sr = 0
  · have hc : ckE o = 0 := sum_ck (by rw [hs]; exact hr0)
    subst hr0
    by_cases h0 : n = 0
    · have he : entV o wd = (eB, eB, 110) := by unfold entV; rw [hs, if_pos rfl, if_pos (by rw [← hen]; exact h0)]
      rw [he] at hx
      cases hx
      have HAB : Hid (∀ G : World, Calls Try.prog 57 #[obV o.key v n m] G fun e u' => e = .returned (.bool true) ∧ Below G.heap.size G u') := fun G => by
        have := oAbsent o.key v n m hnf G
        rwa [decide_eq_true h0] at this
      clear hc hs he hen hem h0 hnf hmf
      go_enter Try.func41, Try.ntmps41
      go_wp2_with (first
        | ((with_reducible refine wpList_box_ob (by rfl) (.tmp 0) (by rfl) (some 2) (by rfl) N (unhide HN) o.key v n m (by with_unfolding_all rfl) ?_); intro W1 HX1 HB1 HS1; simp only [Act.put, List.setIfInBounds_toArray, List.set_cons_zero, List.set_cons_succ])
        | ((with_reducible refine wpList_alloc_en (by rfl) (by rfl) (some 4) (by rfl) (N + 1) (unhide HS1).symm ?_); intro W2 HX2 HB2 HS2; simp only [Act.put, List.setIfInBounds_toArray, List.set_cons_zero, List.set_cons_succ]; have HBU : Hid (Below N u W2) := (unhide HB1).trans ((unhide HB2).mono (Nat.le_succ _)); have HLX : Hid (Lo W2 N o v n m) := ⟨unhide HU _ (unhide HBU), ((unhide HB2).block N (Nat.lt_succ_self _)).trans (unhide HX1)⟩; have HNS : Hid (N + 1 + 1 ≤ W2.heap.size) := (by show N + 1 + 1 ≤ W2.heap.size; rw [unhide HS2]; omega); clear HX1 HB1 HS1 HB2 HS2; obtain ⟨c0, c1, c2⟩ := (unhide HLX).cells)
        | (go_at_call 32; refine (unhide HSU _ (unhide HLX).toSx).mono ?_; rintro e W3 ⟨rfl, hb⟩; clear c0 c1 c2; replace HLX := hide ((unhide HLX).below hb); replace HX2 := hide (box_below (unhide HX2) hb); replace HBU : Hid (Below N u W3) := (unhide HBU).trans (hb.mono (by have := unhide HNS; omega)); replace HNS : Hid (N + 1 + 1 ≤ W3.heap.size) := Nat.le_trans (unhide HNS) hb.size; clear hb; obtain ⟨c0, c1, c2⟩ := (unhide HLX).cells)
        | (go_at_call 57; refine (unhide HAB _).mono ?_; rintro e W4 ⟨rfl, hb⟩; clear c0 c1 c2; replace HLX := hide ((unhide HLX).below hb); replace HX2 := hide (box_below (unhide HX2) hb); replace HBU : Hid (Below N u W4) := (unhide HBU).trans (hb.mono (by have := unhide HNS; omega)); replace HNS : Hid (N + 1 + 1 ≤ W4.heap.size) := Nat.le_trans (unhide HNS) hb.size; clear hb; obtain ⟨c0, c1, c2⟩ := (unhide HLX).cells)
        | ((with_reducible refine wpList_store_en (by rfl) (.tmp 4) (.tmp 20) (by rfl) (N + 1) ⟨#[]⟩ ⟨#[]⟩ (by with_unfolding_all rfl) (by with_unfolding_all rfl) _ _ (unhide HX2) ?_); intro W7 HX7 HE7; simp only [Act.put])
        | fail)
      refine bodyPost_ret (results_cell_tmp rfl _ _ (N + 1) 71 #[.string ⟨#[]⟩, .string ⟨#[]⟩] (0, 0) _ rfl (unhide HX7) enUnd rfl enInfo) rfl ?_
      exact ⟨rfl, by rw [unhide HE7]; exact belowRow (unhide HBU) (by omega) _⟩
    · have he : entV o wd = (o.key, sb, 0) := by unfold entV; rw [hs, if_pos rfl, if_neg (by rw [← hen]; exact h0)]
      rw [he] at hx
      obtain ⟨hx1, hx2⟩ := Prod.mk.inj hx
      obtain ⟨hx2, hx3⟩ := Prod.mk.inj hx2
      subst hx1 hx2 hx3
      have HAB : Hid (∀ G : World, Calls Try.prog 57 #[obV o.key v n m] G fun e u' => e = .returned (.bool false) ∧ Below G.heap.size G u') := fun G => by
        have := oAbsent o.key v n m hnf G
        rwa [decide_eq_false h0] at this
      clear hc hs he hen hem h0 hnf hmf hx
      go_enter Try.func41, Try.ntmps41
      go_wp2_with (first
        | ((with_reducible refine wpList_box_ob (by rfl) (.tmp 0) (by rfl) (some 2) (by rfl) N (unhide HN) o.key v n m (by with_unfolding_all rfl) ?_); intro W1 HX1 HB1 HS1; simp only [Act.put, List.setIfInBounds_toArray, List.set_cons_zero, List.set_cons_succ])
        | ((with_reducible refine wpList_alloc_en (by rfl) (by rfl) (some 4) (by rfl) (N + 1) (unhide HS1).symm ?_); intro W2 HX2 HB2 HS2; simp only [Act.put, List.setIfInBounds_toArray, List.set_cons_zero, List.set_cons_succ]; have HBU : Hid (Below N u W2) := (unhide HB1).trans ((unhide HB2).mono (Nat.le_succ _)); have HLX : Hid (Lo W2 N o v n m) := ⟨unhide HU _ (unhide HBU), ((unhide HB2).block N (Nat.lt_succ_self _)).trans (unhide HX1)⟩; have HNS : Hid (N + 1 + 1 ≤ W2.heap.size) := (by show N + 1 + 1 ≤ W2.heap.size; rw [unhide HS2]; omega); clear HX1 HB1 HS1 HB2 HS2; obtain ⟨c0, c1, c2⟩ := (unhide HLX).cells)
        | (go_at_call 32; refine (unhide HSU _ (unhide HLX).toSx).mono ?_; rintro e W3 ⟨rfl, hb⟩; clear c0 c1 c2; replace HLX := hide ((unhide HLX).below hb); replace HX2 := hide (box_below (unhide HX2) hb); replace HBU : Hid (Below N u W3) := (unhide HBU).trans (hb.mono (by have := unhide HNS; omega)); replace HNS : Hid (N + 1 + 1 ≤ W3.heap.size) := Nat.le_trans (unhide HNS) hb.size; clear hb; obtain ⟨c0, c1, c2⟩ := (unhide HLX).cells)
        | (go_at_call 57; refine (unhide HAB _).mono ?_; rintro e W4 ⟨rfl, hb⟩; clear c0 c1 c2; replace HLX := hide ((unhide HLX).below hb); replace HX2 := hide (box_below (unhide HX2) hb); replace HBU : Hid (Below N u W4) := (unhide HBU).trans (hb.mono (by have := unhide HNS; omega)); replace HNS : Hid (N + 1 + 1 ≤ W4.heap.size) := Nat.le_trans (unhide HNS) hb.size; clear hb; obtain ⟨c0, c1, c2⟩ := (unhide HLX).cells)
        | ((with_reducible refine wpList_store_en (by rfl) (.tmp 4) (.tmp 24) (by rfl) (N + 1) o.key sb (by with_unfolding_all rfl) (by with_unfolding_all rfl) _ _ (unhide HX2) ?_); intro W7 HX7 HE7; simp only [Act.put])
        | fail)
      refine bodyPost_ret (results_cell_tmp rfl _ _ (N + 1) 71 #[.string o.key, .string sb] (0, 0) _ rfl (unhide HX7) enUnd rfl enInfo) rfl ?_
      exact ⟨rfl, by rw [unhide HE7]; exact belowRow (unhide HBU) (by omega) _⟩
  · have he : entV o wd = (eB, eB, sr) := by unfold entV; rw [hs, if_neg hr0]
    rw [he] at hx
    obtain ⟨hx1, hx2⟩ := Prod.mk.inj hx
    obtain ⟨hx2, hx3⟩ := Prod.mk.inj hx2
    subst hx1 hx2 hx3
    have hcb : (sr == 0) = false := by simpa using hr0
    clear hs he hen hem hnf hmf hx
    go_enter Try.func41, Try.ntmps41
    go_wp2_with (first
      | ((with_reducible refine wpList_box_ob (by rfl) (.tmp 0) (by rfl) (some 2) (by rfl) N (unhide HN) o.key v n m (by with_unfolding_all rfl) ?_); intro W1 HX1 HB1 HS1; simp only [Act.put, List.setIfInBounds_toArray, List.set_cons_zero, List.set_cons_succ])
      | ((with_reducible refine wpList_alloc_en (by rfl) (by rfl) (some 4) (by rfl) (N + 1) (unhide HS1).symm ?_); intro W2 HX2 HB2 HS2; simp only [Act.put, List.setIfInBounds_toArray, List.set_cons_zero, List.set_cons_succ]; have HBU : Hid (Below N u W2) := (unhide HB1).trans ((unhide HB2).mono (Nat.le_succ _)); have HLX : Hid (Lo W2 N o v n m) := ⟨unhide HU _ (unhide HBU), ((unhide HB2).block N (Nat.lt_succ_self _)).trans (unhide HX1)⟩; have HNS : Hid (N + 1 + 1 ≤ W2.heap.size) := (by show N + 1 + 1 ≤ W2.heap.size; rw [unhide HS2]; omega); clear HX1 HB1 HS1 HB2 HS2; obtain ⟨c0, c1, c2⟩ := (unhide HLX).cells)
      | (go_at_call 32; refine (unhide HSU _ (unhide HLX).toSx).mono ?_; rintro e W3 ⟨rfl, hb⟩; clear c0 c1 c2; replace HLX := hide ((unhide HLX).below hb); replace HX2 := hide (box_below (unhide HX2) hb); replace HBU : Hid (Below N u W3) := (unhide HBU).trans (hb.mono (by have := unhide HNS; omega)); replace HNS : Hid (N + 1 + 1 ≤ W3.heap.size) := Nat.le_trans (unhide HNS) hb.size; clear hb; obtain ⟨c0, c1, c2⟩ := (unhide HLX).cells)
      | ((with_reducible refine wpList_store_en (by rfl) (.tmp 4) (.tmp 16) (by rfl) (N + 1) ⟨#[]⟩ ⟨#[]⟩ (by with_unfolding_all rfl) (by with_unfolding_all rfl) _ _ (unhide HX2) ?_); intro W7 HX7 HE7; simp only [Act.put])
      | fail)
    refine bodyPost_ret (results_cell_tmp rfl _ _ (N + 1) 71 #[.string ⟨#[]⟩, .string ⟨#[]⟩] (0, 0) _ rfl (unhide HX7) enUnd rfl enInfo) rfl ?_
    exact ⟨rfl, by rw [unhide HE7]; exact belowRow (unhide HBU) (by omega) _⟩
set_option maxRecDepth 100000 in
set_option maxHeartbeats 4000000 in
theorem qEntry {u : World} {o : Ot} {v : Sv} {n m : Nat} (h : Sx u o.st v n m) (wd : Int) (x z : ByteArray) (r : Int) (hx : entV o wd = (x, z, r)) : Calls Try.prog 40 #[obV o.key v n m, .int .i64 wd] u fun e u' => e = .returned (.tuple #[.agg #[.string x, .string z], .int .i64 r]) ∧ Below u.heap.size u u' := by
  obtain ⟨N, hN⟩ : ∃ N, N = u.heap.size := ⟨_, rfl⟩
  have HN := hide hN
  have HU : Hid (∀ G : World, Below N u G → Sx G o.st v n m) := fun G hG => h.below (by rw [← unhide HN]; exact hG)
  have hen := h.en
  have hem := h.em
  have hnf := h.few
  have hmf := h.few2
  rw [← hN]
  clear hN h
  obtain ⟨sb, sr, hs⟩ : ∃ sb sr, sumV o wd = (sb, sr) := ⟨_, _, rfl⟩
  have HSU : Hid (∀ G : World, Sx G o.st v n m → Calls Try.prog 39 #[obV o.key v n m, .int .i64 wd] G fun e u' => e = .returned (.tuple #[.string sb, .int .i64 sr]) ∧ Below G.heap.size G u') := fun G hG => qSum hG wd _ _ hs
  by_cases hr0 : sr = 0
  · have hc : ckE o = 0 := sum_ck (by rw [hs]; exact hr0)
    subst hr0
    by_cases h0 : n = 0
    · have he : entV o wd = (eB, eB, 110) := by unfold entV; rw [hs, if_pos rfl, if_pos (by rw [← hen]; exact h0)]
      rw [he] at hx
      cases hx
      have HAB : Hid (∀ G : World, Calls Try.prog 73 #[obV o.key v n m] G fun e u' => e = .returned (.bool true) ∧ Below G.heap.size G u') := fun G => by
        have := qAbsent o.key v n m hnf hmf G
        rwa [decide_eq_true h0, decide_eq_true (show m = 0 by rw [hem]; exact sok_none (ck_zero.1 hc).2.1 (by rw [← hen]; exact h0))] at this
      clear hc hs he hen hem h0 hnf hmf
      go_enter Try.func40, Try.ntmps40
      go_wp2_with (first
        | ((with_reducible refine wpList_box_ob (by rfl) (.tmp 0) (by rfl) (some 2) (by rfl) N (unhide HN) o.key v n m (by with_unfolding_all rfl) ?_); intro W1 HX1 HB1 HS1; simp only [Act.put, List.setIfInBounds_toArray, List.set_cons_zero, List.set_cons_succ])
        | ((with_reducible refine wpList_alloc_en (by rfl) (by rfl) (some 4) (by rfl) (N + 1) (unhide HS1).symm ?_); intro W2 HX2 HB2 HS2; simp only [Act.put, List.setIfInBounds_toArray, List.set_cons_zero, List.set_cons_succ]; have HBU : Hid (Below N u W2) := (unhide HB1).trans ((unhide HB2).mono (Nat.le_succ _)); have HLX : Hid (Lo W2 N o v n m) := ⟨unhide HU _ (unhide HBU), ((unhide HB2).block N (Nat.lt_succ_self _)).trans (unhide HX1)⟩; have HNS : Hid (N + 1 + 1 ≤ W2.heap.size) := (by show N + 1 + 1 ≤ W2.heap.size; rw [unhide HS2]; omega); clear HX1 HB1 HS1 HB2 HS2; obtain ⟨c0, c1, c2⟩ := (unhide HLX).cells)
        | (go_at_call 39; refine (unhide HSU _ (unhide HLX).toSx).mono ?_; rintro e W3 ⟨rfl, hb⟩; clear c0 c1 c2; replace HLX := hide ((unhide HLX).below hb); replace HX2 := hide (box_below (unhide HX2) hb); replace HBU : Hid (Below N u W3) := (unhide HBU).trans (hb.mono (by have := unhide HNS; omega)); replace HNS : Hid (N + 1 + 1 ≤ W3.heap.size) := Nat.le_trans (unhide HNS) hb.size; clear hb; obtain ⟨c0, c1, c2⟩ := (unhide HLX).cells)
        | (go_at_call 73; refine (unhide HAB _).mono ?_; rintro e W4 ⟨rfl, hb⟩; clear c0 c1 c2; replace HLX := hide ((unhide HLX).below hb); replace HX2 := hide (box_below (unhide HX2) hb); replace HBU : Hid (Below N u W4) := (unhide HBU).trans (hb.mono (by have := unhide HNS; omega)); replace HNS : Hid (N + 1 + 1 ≤ W4.heap.size) := Nat.le_trans (unhide HNS) hb.size; clear hb; obtain ⟨c0, c1, c2⟩ := (unhide HLX).cells)
        | ((with_reducible refine wpList_store_en (by rfl) (.tmp 4) (.tmp 20) (by rfl) (N + 1) ⟨#[]⟩ ⟨#[]⟩ (by with_unfolding_all rfl) (by with_unfolding_all rfl) _ _ (unhide HX2) ?_); intro W7 HX7 HE7; simp only [Act.put])
        | fail)
      refine bodyPost_ret (results_cell_tmp rfl _ _ (N + 1) 71 #[.string ⟨#[]⟩, .string ⟨#[]⟩] (0, 0) _ rfl (unhide HX7) enUnd rfl enInfo) rfl ?_
      exact ⟨rfl, by rw [unhide HE7]; exact belowRow (unhide HBU) (by omega) _⟩
    · have he : entV o wd = (o.key, sb, 0) := by unfold entV; rw [hs, if_pos rfl, if_neg (by rw [← hen]; exact h0)]
      rw [he] at hx
      obtain ⟨hx1, hx2⟩ := Prod.mk.inj hx
      obtain ⟨hx2, hx3⟩ := Prod.mk.inj hx2
      subst hx1 hx2 hx3
      have HAB : Hid (∀ G : World, Calls Try.prog 73 #[obV o.key v n m] G fun e u' => e = .returned (.bool false) ∧ Below G.heap.size G u') := fun G => by
        have := qAbsent o.key v n m hnf hmf G
        rwa [decide_eq_false h0] at this
      clear hc hs he hen hem h0 hnf hmf hx
      go_enter Try.func40, Try.ntmps40
      go_wp2_with (first
        | ((with_reducible refine wpList_box_ob (by rfl) (.tmp 0) (by rfl) (some 2) (by rfl) N (unhide HN) o.key v n m (by with_unfolding_all rfl) ?_); intro W1 HX1 HB1 HS1; simp only [Act.put, List.setIfInBounds_toArray, List.set_cons_zero, List.set_cons_succ])
        | ((with_reducible refine wpList_alloc_en (by rfl) (by rfl) (some 4) (by rfl) (N + 1) (unhide HS1).symm ?_); intro W2 HX2 HB2 HS2; simp only [Act.put, List.setIfInBounds_toArray, List.set_cons_zero, List.set_cons_succ]; have HBU : Hid (Below N u W2) := (unhide HB1).trans ((unhide HB2).mono (Nat.le_succ _)); have HLX : Hid (Lo W2 N o v n m) := ⟨unhide HU _ (unhide HBU), ((unhide HB2).block N (Nat.lt_succ_self _)).trans (unhide HX1)⟩; have HNS : Hid (N + 1 + 1 ≤ W2.heap.size) := (by show N + 1 + 1 ≤ W2.heap.size; rw [unhide HS2]; omega); clear HX1 HB1 HS1 HB2 HS2; obtain ⟨c0, c1, c2⟩ := (unhide HLX).cells)
        | (go_at_call 39; refine (unhide HSU _ (unhide HLX).toSx).mono ?_; rintro e W3 ⟨rfl, hb⟩; clear c0 c1 c2; replace HLX := hide ((unhide HLX).below hb); replace HX2 := hide (box_below (unhide HX2) hb); replace HBU : Hid (Below N u W3) := (unhide HBU).trans (hb.mono (by have := unhide HNS; omega)); replace HNS : Hid (N + 1 + 1 ≤ W3.heap.size) := Nat.le_trans (unhide HNS) hb.size; clear hb; obtain ⟨c0, c1, c2⟩ := (unhide HLX).cells)
        | (go_at_call 73; refine (unhide HAB _).mono ?_; rintro e W4 ⟨rfl, hb⟩; clear c0 c1 c2; replace HLX := hide ((unhide HLX).below hb); replace HX2 := hide (box_below (unhide HX2) hb); replace HBU : Hid (Below N u W4) := (unhide HBU).trans (hb.mono (by have := unhide HNS; omega)); replace HNS : Hid (N + 1 + 1 ≤ W4.heap.size) := Nat.le_trans (unhide HNS) hb.size; clear hb; obtain ⟨c0, c1, c2⟩ := (unhide HLX).cells)
        | ((with_reducible refine wpList_store_en (by rfl) (.tmp 4) (.tmp 24) (by rfl) (N + 1) o.key sb (by with_unfolding_all rfl) (by with_unfolding_all rfl) _ _ (unhide HX2) ?_); intro W7 HX7 HE7; simp only [Act.put])
        | fail)
      refine bodyPost_ret (results_cell_tmp rfl _ _ (N + 1) 71 #[.string o.key, .string sb] (0, 0) _ rfl (unhide HX7) enUnd rfl enInfo) rfl ?_
      exact ⟨rfl, by rw [unhide HE7]; exact belowRow (unhide HBU) (by omega) _⟩
  · have he : entV o wd = (eB, eB, sr) := by unfold entV; rw [hs, if_neg hr0]
    rw [he] at hx
    obtain ⟨hx1, hx2⟩ := Prod.mk.inj hx
    obtain ⟨hx2, hx3⟩ := Prod.mk.inj hx2
    subst hx1 hx2 hx3
    have hcb : (sr == 0) = false := by simpa using hr0
    clear hs he hen hem hnf hmf hx
    go_enter Try.func40, Try.ntmps40
    go_wp2_with (first
      | ((with_reducible refine wpList_box_ob (by rfl) (.tmp 0) (by rfl) (some 2) (by rfl) N (unhide HN) o.key v n m (by with_unfolding_all rfl) ?_); intro W1 HX1 HB1 HS1; simp only [Act.put, List.setIfInBounds_toArray, List.set_cons_zero, List.set_cons_succ])
      | ((with_reducible refine wpList_alloc_en (by rfl) (by rfl) (some 4) (by rfl) (N + 1) (unhide HS1).symm ?_); intro W2 HX2 HB2 HS2; simp only [Act.put, List.setIfInBounds_toArray, List.set_cons_zero, List.set_cons_succ]; have HBU : Hid (Below N u W2) := (unhide HB1).trans ((unhide HB2).mono (Nat.le_succ _)); have HLX : Hid (Lo W2 N o v n m) := ⟨unhide HU _ (unhide HBU), ((unhide HB2).block N (Nat.lt_succ_self _)).trans (unhide HX1)⟩; have HNS : Hid (N + 1 + 1 ≤ W2.heap.size) := (by show N + 1 + 1 ≤ W2.heap.size; rw [unhide HS2]; omega); clear HX1 HB1 HS1 HB2 HS2; obtain ⟨c0, c1, c2⟩ := (unhide HLX).cells)
      | (go_at_call 39; refine (unhide HSU _ (unhide HLX).toSx).mono ?_; rintro e W3 ⟨rfl, hb⟩; clear c0 c1 c2; replace HLX := hide ((unhide HLX).below hb); replace HX2 := hide (box_below (unhide HX2) hb); replace HBU : Hid (Below N u W3) := (unhide HBU).trans (hb.mono (by have := unhide HNS; omega)); replace HNS : Hid (N + 1 + 1 ≤ W3.heap.size) := Nat.le_trans (unhide HNS) hb.size; clear hb; obtain ⟨c0, c1, c2⟩ := (unhide HLX).cells)
      | ((with_reducible refine wpList_store_en (by rfl) (.tmp 4) (.tmp 16) (by rfl) (N + 1) ⟨#[]⟩ ⟨#[]⟩ (by with_unfolding_all rfl) (by with_unfolding_all rfl) _ _ (unhide HX2) ?_); intro W7 HX7 HE7; simp only [Act.put])
      | fail)
    refine bodyPost_ret (results_cell_tmp rfl _ _ (N + 1) 71 #[.string ⟨#[]⟩, .string ⟨#[]⟩] (0, 0) _ rfl (unhide HX7) enUnd rfl enInfo) rfl ?_
    exact ⟨rfl, by rw [unhide HE7]; exact belowRow (unhide HBU) (by omega) _⟩
set_option maxRecDepth 100000 in
set_option maxHeartbeats 2000000 in
theorem qSame {u : World} {o q : Ot} {v w : Sv} {n m n' m' : Nat} (h : Sx u o.st v n m) (h' : Sx u q.st w n' m') (r : Bool) (hr : r = (decide (o.key = q.key) && sameB o.st q.st)) : Calls Try.prog 37 #[obV o.key v n m, obV q.key w n' m'] u fun e u' => e = .returned (.bool r) ∧ Below u.heap.size u u' := by
  obtain ⟨N, hN⟩ : ∃ N, N = u.heap.size := ⟨_, rfl⟩
  have HN := hide hN
  have HU : Hid (∀ W : World, Below N u W → Below u.heap.size u W) := fun W hW => by rw [← unhide HN]; exact hW
  have HC : Hid (∀ W, Below N u W → Calls Try.prog 72 #[v.v n m, w.v n' m'] W fun e W' => e = .returned (.bool (sameB o.st q.st)) ∧ Below W.heap.size W W') := fun W hW => kvRSame _ rfl (h.below (unhide HU _ hW)) (h'.below (unhide HU _ hW)) W (Below.refl _ _)
  generalize sameB o.st q.st = sb at *
  rw [← hN]
  clear hN h h'
  by_cases hk : o.key = q.key
  · have hq : (o.key.toList == q.key.toList) = true := by rw [hk]; simp
    rw [decide_eq_true hk, Bool.true_and] at hr
    subst hr
    clear hk
    go_enter Try.func37, Try.ntmps37
    go_wp2_with (first
      | ((with_reducible refine wpList_box_ob (by rfl) (.tmp 0) (by rfl) (some 2) (by rfl) N (unhide HN) o.key v n m (by with_unfolding_all rfl) ?_); intro W1 HX1 HB1 HS1; simp only [Act.put, List.setIfInBounds_toArray, List.set_cons_zero, List.set_cons_succ])
      | ((with_reducible refine wpList_box_ob (by rfl) (.tmp 1) (by rfl) (some 3) (by rfl) (N + 1) (unhide HS1).symm q.key w n' m' (by with_unfolding_all rfl) ?_); intro W2 HX2 HB2 HS2; simp only [Act.put, List.setIfInBounds_toArray, List.set_cons_zero, List.set_cons_succ]; replace HX1 := hide (((unhide HB2).block N (Nat.lt_succ_self _)).trans (unhide HX1)); replace HB1 : Hid (Below N u W2) := (unhide HB1).trans ((unhide HB2).mono (Nat.le_succ _)); obtain ⟨c0, c1, c2⟩ := ob_cells (unhide HX1); obtain ⟨d0, d1, d2⟩ := ob_cells (unhide HX2))
      | (go_at_call 72; refine (unhide HC W2 (unhide HB1)).mono ?_; rintro e W3 ⟨rfl, hb⟩; have HB3 := hide hb; clear hb)
      | fail)
    go_ret
    exact ⟨rfl, (unhide HB1).trans ((unhide HB3).mono (by rw [unhide HS2]; omega))⟩
  · have hq : (o.key.toList == q.key.toList) = false := by
      rw [← Bool.not_eq_true]
      intro h
      exact hk (toList_inj h)
    rw [decide_eq_false hk, Bool.false_and] at hr
    subst hr
    clear hk
    go_enter Try.func37, Try.ntmps37
    go_wp2_with (first
      | ((with_reducible refine wpList_box_ob (by rfl) (.tmp 0) (by rfl) (some 2) (by rfl) N (unhide HN) o.key v n m (by with_unfolding_all rfl) ?_); intro W1 HX1 HB1 HS1; simp only [Act.put, List.setIfInBounds_toArray, List.set_cons_zero, List.set_cons_succ])
      | ((with_reducible refine wpList_box_ob (by rfl) (.tmp 1) (by rfl) (some 3) (by rfl) (N + 1) (unhide HS1).symm q.key w n' m' (by with_unfolding_all rfl) ?_); intro W2 HX2 HB2 HS2; simp only [Act.put, List.setIfInBounds_toArray, List.set_cons_zero, List.set_cons_succ]; replace HX1 := hide (((unhide HB2).block N (Nat.lt_succ_self _)).trans (unhide HX1)); replace HB1 : Hid (Below N u W2) := (unhide HB1).trans ((unhide HB2).mono (Nat.le_succ _)); obtain ⟨c0, c1, c2⟩ := ob_cells (unhide HX1); obtain ⟨d0, d1, d2⟩ := ob_cells (unhide HX2))
      | fail)
    go_ret
    exact ⟨rfl, unhide HB1⟩
end Go.Proofs.Ytkcbljmjhlnjpaa
