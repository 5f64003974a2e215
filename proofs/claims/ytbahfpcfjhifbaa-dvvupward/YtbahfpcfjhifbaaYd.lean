/- States: two dots, contents. -/
import Derived.Test.YtbahfpcfjhifbaaYc
namespace Go.Proofs.Ytbahfpcfjhifbaa
open Go.RowKit Go.Lib
open Classical in
noncomputable def ahB (d e : Nat × Nat) : Bool := decide (ah d e)
set_option maxRecDepth 100000 in
set_option maxHeartbeats 2000000 in
theorem dAhead (pa pc qa qc : Nat) (u : World) : Calls Try.prog 40 #[.agg #[.int .u32 (pa : Int), .int .u64 (pc : Int)], .agg #[.int .u32 (qa : Int), .int .u64 (qc : Int)]] u fun e u' => e = .returned (.bool (ahB (pa, pc) (qa, qc))) ∧ Below u.heap.size u u' := by
  obtain ⟨N, hN⟩ : ∃ N, N = u.heap.size := ⟨_, rfl⟩
  have HN := hide hN
  rw [← hN]
  clear hN
  have HT : Hid (ah (pa, pc) (qa, qc) → ahB (pa, pc) (qa, qc) = true) := fun h => decide_eq_true h
  have HF : Hid (¬ ah (pa, pc) (qa, qc) → ahB (pa, pc) (qa, qc) = false) := fun h => decide_eq_false h
  generalize ahB (pa, pc) (qa, qc) = r at *
  by_cases h1 : pa < qa
  · have h1i : (pa : Int) < (qa : Int) := by omega
    have HR := hide (unhide HT (.inl h1))
    clear HT HF
    go_enter Try.func40, Try.ntmps40
    go_wp2_with (first
      | ((with_reducible refine wpList_box_dot (by rfl) (.tmp 0) (by rfl) (some 2) (by rfl) N (unhide HN) (pa : Int) (pc : Int) (by with_unfolding_all rfl) ?_); intro W1 HX1 HB1 HS1; simp only [Act.put, List.setIfInBounds_toArray, List.set_cons_zero, List.set_cons_succ])
      | ((with_reducible refine wpList_box_dot (by rfl) (.tmp 1) (by rfl) (some 3) (by rfl) (N + 1) (unhide HS1).symm (qa : Int) (qc : Int) (by with_unfolding_all rfl) ?_); intro W2 HX2 HB2 HS2; simp only [Act.put, List.setIfInBounds_toArray, List.set_cons_zero, List.set_cons_succ]; obtain ⟨y0, y1⟩ := box2 (unhide HX2); obtain ⟨z0, z1⟩ := box2 (((unhide HB2).block N (Nat.lt_succ_self _)).trans (unhide HX1)))
      | fail)
    go_ret
    exact ⟨by rw [unhide HR]; rfl, (unhide HB1).trans ((unhide HB2).mono (Nat.le_succ _))⟩
  · have h1i : ¬ (pa : Int) < (qa : Int) := by omega
    by_cases h2 : pa = qa
    · by_cases h3 : pc < qc
      · have h3i : (pc : Int) < (qc : Int) := by omega
        have HR := hide (unhide HT (.inr ⟨h2, h3⟩))
        subst h2
        clear HT HF
        go_enter Try.func40, Try.ntmps40
        go_wp2_with (first
          | ((with_reducible refine wpList_box_dot (by rfl) (.tmp 0) (by rfl) (some 2) (by rfl) N (unhide HN) (pa : Int) (pc : Int) (by with_unfolding_all rfl) ?_); intro W1 HX1 HB1 HS1; simp only [Act.put, List.setIfInBounds_toArray, List.set_cons_zero, List.set_cons_succ])
          | ((with_reducible refine wpList_box_dot (by rfl) (.tmp 1) (by rfl) (some 3) (by rfl) (N + 1) (unhide HS1).symm (pa : Int) (qc : Int) (by with_unfolding_all rfl) ?_); intro W2 HX2 HB2 HS2; simp only [Act.put, List.setIfInBounds_toArray, List.set_cons_zero, List.set_cons_succ]; obtain ⟨y0, y1⟩ := box2 (unhide HX2); obtain ⟨z0, z1⟩ := box2 (((unhide HB2).block N (Nat.lt_succ_self _)).trans (unhide HX1)))
          | fail)
        go_ret
        exact ⟨by rw [unhide HR]; rfl, (unhide HB1).trans ((unhide HB2).mono (Nat.le_succ _))⟩
      · have h3i : ¬ (pc : Int) < (qc : Int) := by omega
        have HR := hide (unhide HF (by unfold ah; simp only; omega))
        subst h2
        clear HT HF
        go_enter Try.func40, Try.ntmps40
        go_wp2_with (first
          | ((with_reducible refine wpList_box_dot (by rfl) (.tmp 0) (by rfl) (some 2) (by rfl) N (unhide HN) (pa : Int) (pc : Int) (by with_unfolding_all rfl) ?_); intro W1 HX1 HB1 HS1; simp only [Act.put, List.setIfInBounds_toArray, List.set_cons_zero, List.set_cons_succ])
          | ((with_reducible refine wpList_box_dot (by rfl) (.tmp 1) (by rfl) (some 3) (by rfl) (N + 1) (unhide HS1).symm (pa : Int) (qc : Int) (by with_unfolding_all rfl) ?_); intro W2 HX2 HB2 HS2; simp only [Act.put, List.setIfInBounds_toArray, List.set_cons_zero, List.set_cons_succ]; obtain ⟨y0, y1⟩ := box2 (unhide HX2); obtain ⟨z0, z1⟩ := box2 (((unhide HB2).block N (Nat.lt_succ_self _)).trans (unhide HX1)))
          | fail)
        go_ret
        exact ⟨by rw [unhide HR]; rfl, (unhide HB1).trans ((unhide HB2).mono (Nat.le_succ _))⟩
    · have h2i : ¬ (pa : Int) = (qa : Int) := by omega
      have h2b : ((pa : Int) == (qa : Int)) = false := by simpa using h2i
      have HR := hide (unhide HF (by unfold ah; simp only; omega))
      clear HT HF
      go_enter Try.func40, Try.ntmps40
      go_wp2_with (first
        | ((with_reducible refine wpList_box_dot (by rfl) (.tmp 0) (by rfl) (some 2) (by rfl) N (unhide HN) (pa : Int) (pc : Int) (by with_unfolding_all rfl) ?_); intro W1 HX1 HB1 HS1; simp only [Act.put, List.setIfInBounds_toArray, List.set_cons_zero, List.set_cons_succ])
        | ((with_reducible refine wpList_box_dot (by rfl) (.tmp 1) (by rfl) (some 3) (by rfl) (N + 1) (unhide HS1).symm (qa : Int) (qc : Int) (by with_unfolding_all rfl) ?_); intro W2 HX2 HB2 HS2; simp only [Act.put, List.setIfInBounds_toArray, List.set_cons_zero, List.set_cons_succ]; obtain ⟨y0, y1⟩ := box2 (unhide HX2); obtain ⟨z0, z1⟩ := box2 (((unhide HB2).block N (Nat.lt_succ_self _)).trans (unhide HX1)))
        | fail)
      go_ret
      exact ⟨by rw [unhide HR]; rfl, (unhide HB1).trans ((unhide HB2).mono (Nat.le_succ _))⟩
/- a content's block -/
theorem zeroCt : ((Try.prog.info? 70).bind (·.zero)).map (·.cells) = some #[.bool false, .string ⟨#[]⟩] := by kernel_rfl
theorem ctInfo : (Try.prog.info? 70).map (·.size) = some 2 := by kernel_rfl
theorem ctUnd : Try.prog.underlying 70 = some (.struct (match Try.prog.underlying 70 with | some (.struct fs) => fs | _ => #[])) := by kernel_rfl
theorem ct_one (g : Bool) (v : ByteArray) : (#[.bool g, .string v] : Array Value).all (·.oneCell') = true := by
  rw [Array.all_eq_true']
  intro v hv
  simp only [List.mem_toArray, List.mem_cons, List.not_mem_nil, or_false] at hv
  rcases hv with rfl | rfl <;> rfl
theorem wpList_alloc_ct {ops : Array Oper} {rest : List Oper} {o : Oper} {a : Act} {w : World} {Q : Exit → Act → World → Prop} (hg : o.guard = none) (ho : o.op = .alloc 70) (d : Option Tmp) (hd : o.dst = d) (N : Nat) (hN : N = w.heap.size)
    (h : ∀ w', Hid (w'.heap[N]? = some (.cells #[.bool false, .string ⟨#[]⟩] 70 (0, 0))) → Hid (Below N w w') → Hid (w'.heap.size = N + 1) → wpList Try.prog ops Q rest (a.put d (.pointer (some ⟨N, 0, none⟩))) w') : wpList Try.prog ops Q (o :: rest) a w :=
  wpList_alloc_row hg _ ho d hd N hN.symm _ zeroCt h
theorem wpList_store_ct {ops : Array Oper} {rest : List Oper} {o : Oper} {a : Act} {w : World} {Q : Exit → Act → World → Prop} (hgd : o.guard = none) (x y : Operand) (ho : o.op = .store 70 x y) (g : Nat) (b : Bool) (v : ByteArray) (hx : a.eval x = .pointer (some ⟨g, 0, none⟩)) (hy : a.eval y = .agg #[.bool b, .string v])
    {q0 q1 : Value} (hg : w.heap[g]? = some (.cells #[q0, q1] 70 (0, 0)))
    (h : ∀ w', Hid (w'.heap[g]? = some (.cells #[.bool b, .string v] 70 (0, 0))) → Hid (w' = w.setRow g #[.bool b, .string v]) → wpList Try.prog ops Q rest (a.put o.dst undef) w') : wpList Try.prog ops Q (o :: rest) a w :=
  wpList_store_hid hgd _ x y ho g _ hx hy _ _ hg ctInfo rfl (ct_one _ _) h
theorem wpList_box_ct {ops : Array Oper} {rest : List Oper} {o : Oper} {a : Act} {w : World} {Q : Exit → Act → World → Prop} (hg : o.guard = none) (x : Operand) (ho : o.op = .box 70 x) (d : Option Tmp) (hd : o.dst = d) (N : Nat) (hN : N = w.heap.size) (b : Bool) (v : ByteArray) (hx : a.eval x = .agg #[.bool b, .string v])
    (h : ∀ w', Hid (w'.heap[N]? = some (.cells #[.bool b, .string v] 70 (0, 0))) → Hid (Below N w w') → Hid (w'.heap.size = N + 1) → wpList Try.prog ops Q rest (a.put d (.pointer (some ⟨N, 0, none⟩))) w') : wpList Try.prog ops Q (o :: rest) a w :=
  wpList_box_row hg _ x ho d hd N hN.symm _ (by rw [hx]; rfl) h
set_option maxRecDepth 100000 in
set_option maxHeartbeats 2000000 in
theorem dContentOf (s : Sb) (u : World) : Calls Try.prog 41 #[s.v] u fun e u' => e = .returned (.agg #[.bool s.gone, .string s.val]) ∧ Below u.heap.size u u' := by
  obtain ⟨N, hN⟩ : ∃ N, N = u.heap.size := ⟨_, rfl⟩
  have HN := hide hN
  rw [← hN]
  clear hN
  go_enter Try.func41, Try.ntmps41
  go_wp2_with (first
    | ((with_reducible refine wpList_box_sib (by rfl) (.tmp 0) (by rfl) (some 1) (by rfl) N (unhide HN) s (by with_unfolding_all rfl) ?_); intro W1 HX1 HB1 HS1; simp only [Act.put, List.setIfInBounds_toArray, List.set_cons_zero, List.set_cons_succ])
    | ((with_reducible refine wpList_alloc_ct (by rfl) (by rfl) (some 2) (by rfl) (N + 1) (unhide HS1).symm ?_); intro W2 HX2 HB2 HS2; simp only [Act.put, List.setIfInBounds_toArray, List.set_cons_zero, List.set_cons_succ]; obtain ⟨z0, z1, z2, z3⟩ := sib_cells (((unhide HB2).block N (Nat.lt_succ_self _)).trans (unhide HX1)))
    | ((with_reducible refine wpList_store_ct (by rfl) (.tmp 2) (.tmp 7) (by rfl) (N + 1) s.gone s.val (by with_unfolding_all rfl) (by with_unfolding_all rfl) (unhide HX2) ?_); intro W3 HX3 HE3; simp only [Act.put])
    | fail)
  refine bodyPost_ret (results_cell rfl _ _ (N + 1) 70 #[.bool s.gone, .string s.val] (0, 0) _ rfl (unhide HX3) ctUnd rfl ctInfo) rfl ?_
  exact ⟨rfl, by rw [unhide HE3]; exact belowRow ((unhide HB1).trans ((unhide HB2).mono (Nat.le_succ _))) (Nat.le_succ _) _⟩
end Go.Proofs.Ytbahfpcfjhifbaa
