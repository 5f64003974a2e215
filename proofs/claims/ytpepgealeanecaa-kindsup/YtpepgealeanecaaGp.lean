/- What values are made of, joined; without runes. -/
import Derived.Test.YtpepgealeanecaaGk
import Derived.Test.YtpepgealeanecaaGm
import Derived.Test.YtpepgealeanecaaGn
import Derived.Deep.DeepCutAuto
namespace Go.Proofs.Ytpepgealeanecaa
open Go.RowKit Go.Lib
/-- the join of two without runes -/
def jnT (a b : Ty) : Ty := ⟨a.k, a.on || b.on, List.zipWith grt a.fl b.fl, tjn a.ta b.ta, []⟩
section
variable {P : Program} {ops : Array Oper} {Q : Exit → Act → World → Prop} {md : Region.Mode} {S : World → Prop} {last : Nat}
theorem wpAnyL_three {i j l : Nat} {o o' o2 : Oper} {fuel : Nat} {listed : Array Bool} {a : Act} {w : World} (hr : Region.ready md ops listed = [i, j, l]) (ho : ops[i]? = some o) (ho' : ops[j]? = some o') (ho2 : ops[l]? = some o2) (hg : Region.wanted o (yielded ops a.tmps) = true) (hg' : Region.wanted o' (yielded ops a.tmps) = true) (hg2 : Region.wanted o2 (yielded ops a.tmps) = true)
    (h : ∀ K : Act → World → Prop, (∀ a w, (i ≠ last → S w) → wpAnyL P md ops Q S last fuel (listed.setIfInBounds i true) a w → K a w) → Oper.wp P o a w K Q)
    (h' : ∀ K : Act → World → Prop, (∀ a w, (j ≠ last → S w) → wpAnyL P md ops Q S last fuel (listed.setIfInBounds j true) a w → K a w) → Oper.wp P o' a w K Q)
    (h2 : ∀ K : Act → World → Prop, (∀ a w, (l ≠ last → S w) → wpAnyL P md ops Q S last fuel (listed.setIfInBounds l true) a w → K a w) → Oper.wp P o2 a w K Q) : wpAnyL P md ops Q S last (fuel + 1) listed a w := by
  refine ⟨fun h0 => absurd (hr ▸ h0) (by simp), ?_⟩
  rw [hr]
  intro k hk
  rcases List.mem_cons.1 hk with rfl | hk
  · refine wpOp_step ho fun K hK => ?_
    rw [if_pos hg]
    exact h K fun a w hs hw => hK a w ⟨hs, hw⟩
  · rcases List.mem_cons.1 hk with rfl | hk
    · refine wpOp_step ho' fun K hK => ?_
      rw [if_pos hg']
      exact h' K fun a w hs hw => hK a w ⟨hs, hw⟩
    · obtain rfl : k = l := by simpa using hk
      refine wpOp_step ho2 fun K hK => ?_
      rw [if_pos hg2]
      exact h2 K fun a w hs hw => hK a w ⟨hs, hw⟩
end
theorem wp_alloc_ty {o : Oper} {a : Act} {w : World} {K : Act → World → Prop} {Q : Exit → Act → World → Prop} (ho : o.op = .alloc 77) (d : Option Tmp) (hd : o.dst = d)
    (h : ∀ w', Hid (Bt w' w.heap.size 0 false none 0 0 ta0 none 0 0) → Hid (Below w.heap.size w w') → K (a.put d (.pointer (some ⟨w.heap.size, 0, none⟩))) w') : o.wp Try.prog a w K Q := by
  subst hd
  obtain ⟨z, h1, h2⟩ := zero_run tyZero w
  unfold Oper.wp execOp
  simp only [ho, Sem.run_bind, Instr.alloc, h1, newVar, newRow, run_newObj_alloc, Sem.run_pure, Result.andThen_ok, h2]
  exact h _ ⟨heap_alloc_new _ _, rfl⟩ ((Below.refl _ _).alloc (Nat.le_refl _) _)
theorem wp_store_ty {o : Oper} {a : Act} {w : World} {K : Act → World → Prop} {Q : Exit → Act → World → Prop} (x y : Operand) (ho : o.op = .store 77 x y) (hd : o.dst = none) (g : Nat) (k : Nat) (on : Bool) (fa : Option Addr) (n fc : Nat) (ta : List Nat) (ra : Option Addr) (m rc : Nat) (hx : a.eval x = .pointer (some ⟨g, 0, none⟩)) (hy : a.eval y = tyV k on fa n fc ta ra m rc) (hl : ta.length = 10)
    {k0 : Nat} {on0 : Bool} {fa0 : Option Addr} {n0 fc0 : Nat} {ta0 : List Nat} {ra0 : Option Addr} {m0 rc0 : Nat} (hb : Bt w g k0 on0 fa0 n0 fc0 ta0 ra0 m0 rc0)
    (h : ∀ w', Hid (Bt w' g k on fa n fc ta ra m rc) → Hid (∀ B u, B ≤ g → Below B u w → Below B u w') → Hid (w'.heap.size = w.heap.size) → Hid (∀ i, i ≠ g → w'.heap[i]? = w.heap[i]?) → K a w') : o.wp Try.prog a w K Q := by
  refine wp_store_row 77 x y ho g (tyC k on fa n fc ta ra m rc) hx hy _ _ hb.row (by rw [tyC_size k on fa n fc hl ra m rc]; exact tyInfo) (by rw [tyC_size _ _ _ _ _ hl, tyC_size _ _ _ _ _ hb.len]) (tyC_one _ _ _ _ _ _ _ _ _) ?_
  rw [hd]
  exact h _ ⟨heapRow_same hb.row _, hl⟩ (fun B u hB hu => belowRow hu hB _) (hide (by simp)) (fun i hi => heapRow_other _ _ _ _ hi)
theorem wp_bld {P : Program} {o : Oper} {a : Act} {w : World} {K : Act → World → Prop} {Q : Exit → Act → World → Prop} {t : TypeId} {parts : Array (Nat × Operand)} (ho : o.op = .build t parts)
    (v : Value) (hr : (Instr.build t (parts.map fun (i, x) => (i, a.eval x))).run P w = .ok v w) (d : Option Tmp) (hd : o.dst = d) (h : K (a.put d v) w) : o.wp P a w K Q := by
  subst hd
  unfold Oper.wp execOp
  simp only [ho, Sem.run_bind, hr, Result.andThen_ok, Sem.run_pure]
  exact h
theorem bTyJ (k : Nat) (on : Bool) {ta : List Nat} (hl : ta.length = 10) (W : World) : (Instr.build 77 #[(0, .int .u8 (k : Int)), (1, .bool on), (3, .agg (taC ta).toArray), (4, .slice none 0 0)]).run Try.prog W = .ok (tyV k on none 0 0 ta none 0 0) W := by
  obtain ⟨a0, a1, a2, a3, a4, a5, a6, a7, a8, a9, rfl⟩ := ten hl
  exact run_build W _ _ _ (by kernel_rfl)
theorem bsRR (W : World) : (Instr.buildSlice 135 2 #[(0, .slice none 0 0), (1, .slice none 0 0)]).run Try.prog W = .ok (.slice (some ⟨W.heap.size, 0, none⟩) 2 2) (W.alloc (.cells #[.slice none 0 0, .slice none 0 0] 30)) := by kernel_rfl
theorem rr_new (W : World) (t : TypeId) : (W.alloc (.cells #[.slice none 0 0, .slice none 0 0] t)).rangeAt W.heap.size 0 [.slice none 0 0, .slice none 0 0] := fun j v hv => by
  have h1 : (W.alloc (.cells #[.slice none 0 0, .slice none 0 0] t)).heap[W.heap.size]? = some (.cells #[.slice none 0 0, .slice none 0 0] t (0, 0)) := heap_alloc_new _ _
  simp only [World.cell?, h1, Nat.zero_add]
  simpa using hv
theorem entTJ : ∀ args (w : World), (callFunc 85 args).run Try.prog w = .ok (.enter 85 args) w := by
  intro args w
  go_simp
theorem entCC : ∀ args (w : World), (callFunc 86 args).run Try.prog w = .ok (.enter 86 args) w := by
  intro args w
  go_simp
theorem entSO : ∀ args (w : World), (callFunc 58 args).run Try.prog w = .ok (.enter 58 args) w := by
  intro args w
  go_simp
theorem entGr : ∀ args (w : World), (callFunc 87 args).run Try.prog w = .ok (.enter 87 args) w := by
  intro args w
  go_simp
theorem rng_keep {w w' : World} {g o : Nat} {xs : List Value} (h : w.rangeAt g o xs) (hb : Below w.heap.size w w') : w'.rangeAt g o xs := fun j v hv => (hb.cell (p := ⟨g, o + j, none⟩) (World.block_lt_of_cell? w _ (h j v hv))).trans (h j v hv)
/-- the three variables of a join -/
structure J3 (u w : World) (N : Nat) (k : Nat) (on : Bool) (fa : Option Addr) (n fc : Nat) (ta : List Nat) (on2 : Bool) (fb : Option Addr) (fd : Nat) (tb : List Nat) : Prop where
  b0 : Bt w N k on fa n fc ta none 0 0
  b1 : Bt w (N + 1) k on2 fb n fd tb none 0 0
  b2 : Bt w (N + 1 + 1) 0 false none 0 0 ta0 none 0 0
  bl : Below N u w
section
variable {u w w' : World} {N : Nat} {k : Nat} {on : Bool} {fa : Option Addr} {n fc : Nat} {ta : List Nat} {on2 : Bool} {fb : Option Addr} {fd : Nat} {tb : List Nat}
theorem J3.belw (h : J3 u w N k on fa n fc ta on2 fb fd tb) (hb : Below w.heap.size w w') : J3 u w' N k on fa n fc ta on2 fb fd tb :=
  ⟨h.b0.below hb, h.b1.below hb, h.b2.below hb, h.bl.trans (hb.mono (Nat.le_of_lt h.b0.lt))⟩
theorem J3.drew (h : J3 u w N k on fa n fc ta on2 fb fd tb) : J3 u w.drew N k on fa n fc ta on2 fb fd tb := h.belw (belowDrew (Below.refl _ _))
theorem J3.set (h : J3 u w N k on fa n fc ta on2 fb fd tb) {g : Nat} (hg : N + 1 + 1 < g) (hb : ∀ B v, B ≤ g → Below B v w → Below B v w') (ho : ∀ i, i ≠ g → w'.heap[i]? = w.heap[i]?) : J3 u w' N k on fa n fc ta on2 fb fd tb :=
  ⟨h.b0.same (ho _ (by omega)), h.b1.same (ho _ (by omega)), h.b2.same (ho _ (by omega)), hb _ _ (by omega) h.bl⟩
end
/-- while floats are joined into the variable at M -/
structure Jl (u w : World) (N M B : Nat) (k : Nat) (on : Bool) (fa : Option Addr) (n fc : Nat) (ta : List Nat) (on2 : Bool) (fb : Option Addr) (fd : Nat) (tb : List Nat) (on3 : Bool) (go : Option Addr) (j gc : Nat) (tc : List Nat) (fl : List Nat) : Prop where
  j3 : J3 u w N k on fa n fc ta on2 fb fd tb
  bt : Bt w M k on3 go j gc tc none 0 0
  own : w.ownsRow B 36 1 (.slice go j gc) j (flC fl)
  h1 : N + 1 + 1 < M
  h2 : M < B
  h3 : B ≤ w.heap.size
section
variable {u w w' : World} {N M B : Nat} {k : Nat} {on : Bool} {fa : Option Addr} {n fc : Nat} {ta : List Nat} {on2 : Bool} {fb : Option Addr} {fd : Nat} {tb : List Nat} {on3 : Bool} {go : Option Addr} {j gc : Nat} {tc : List Nat} {fl : List Nat}
theorem Jl.belw (h : Jl u w N M B k on fa n fc ta on2 fb fd tb on3 go j gc tc fl) (hb : Below w.heap.size w w') : Jl u w' N M B k on fa n fc ta on2 fb fd tb on3 go j gc tc fl :=
  ⟨h.j3.belw hb, h.bt.below hb, own_below h.own hb, h.h1, h.h2, Nat.le_trans h.h3 hb.size⟩
theorem Jl.drew (h : Jl u w N M B k on fa n fc ta on2 fb fd tb on3 go j gc tc fl) : Jl u w.drew N M B k on fa n fc ta on2 fb fd tb on3 go j gc tc fl := h.belw (belowDrew (Below.refl _ _))
theorem Jl.grow {go' : Option Addr} {j' gc' : Nat} {fl' : List Nat} (h : Jl u w N M B k on fa n fc ta on2 fb fd tb on3 go j gc tc fl) (hb : Below B w w') (ho : w'.ownsRow B 36 1 (.slice go' j' gc') j' (flC fl')) : Jl u (w'.setCell ⟨M, 2, none⟩ (.slice go' j' gc')) N M B k on fa n fc ta on2 fb fd tb on3 go' j' gc' tc fl' := by
  have h1 := h.h1
  have h2 := h.h2
  have ho1 : ∀ i, i ≠ M → (w'.setCell ⟨M, 2, none⟩ (.slice go' j' gc')).heap[i]? = w'.heap[i]? := fun i hi => Deep.blk_setCell_other w' ⟨M, 2, none⟩ _ i hi
  have hsz : (w'.setCell ⟨M, 2, none⟩ (.slice go' j' gc')).heap.size = w'.heap.size := by simp [World.setCell]
  have hbk : ∀ i, i < M → (w'.setCell ⟨M, 2, none⟩ (.slice go' j' gc')).heap[i]? = w.heap[i]? := fun i hi => (ho1 i (by omega)).trans (hb.block i (by omega))
  refine ⟨⟨h.j3.b0.same (hbk N (by omega)), h.j3.b1.same (hbk _ (by omega)), h.j3.b2.same (hbk _ (by omega)), belowCell (h.j3.bl.trans (hb.mono (by omega))) (show N ≤ M by omega) _⟩, (h.bt.same (hb.block M (by omega))).set2 go' j' gc', own_keep ho fun g hg => ho1 g ?_, h1, h2, ?_⟩
  · have := World.ownsRow.lt ho g hg
    omega
  · rw [hsz]; exact Nat.le_trans h.h3 hb.size
end
theorem ld_ta {o : Oper} {a : Act} {w : World} {b k : Nat} {on : Bool} {fa : Option Addr} {n fc : Nat} {ta : List Nat} {ra : Option Addr} {m rc : Nat} {x : Operand} (ho : o.op = .load 75 x) (hx : a.eval x = .pointer (some ⟨b, 3, none⟩)) (h : Bt w b k on fa n fc ta ra m rc) : (execOp a.eval o).run Try.prog w = .ok (.value (.agg (taC ta).toArray)) w := by
  unfold execOp
  have := run_loadAt_mid (P := Try.prog) w b 3 75 (taC ta) _ h.rng Try.underlying75 rfl (by rw [taC_len, h.len]; exact taInfo)
  simp only [ho, hx, Sem.run_bind, this, Result.andThen_ok, Sem.run_pure]
set_option maxRecDepth 100000 in
set_option maxHeartbeats 16000000 in
theorem tJoin_false (k : Nat) (la lb ta tb : List Nat) (on2 : Bool) (hl : ta.length = 10) (hl2 : tb.length = 10) (hn2 : lb.length = la.length) (hmx : la.length ≤ 1000000) (ha : ∀ b ∈ la, b < 18446744073709551616) (hb : ∀ b ∈ lb, b < 18446744073709551616) (fa : Option Addr) (fc : Nat) (fb : Option Addr) (fd n : Nat) (hn : n = la.length) (u : World) (h : Lies u fa (flC la)) (h2 : Lies u fb (flC lb)) :
    Calls Try.prog 63 #[tyV k false fa n fc ta none 0 0, tyV k on2 fb n fd tb none 0 0] u fun e u' => ∃ go gc j, e = .returned (tyV k on2 go j gc (tjn ta tb) none 0 0) ∧ j = la.length ∧ u'.ownsRow u.heap.size 36 1 (.slice go j gc) j (flC (List.zipWith grt la lb)) ∧ Below u.heap.size u u' := by
  have hmix : Try.prog.follows .mixedOrders = true := by kernel_rfl
  have HL := hide hl
  have HL2 := hide hl2
  have HTL : Hid ((tjn ta tb).length = 10) := tjn_len hl hl2
  have HTJ : Hid (∀ w : World, Calls Try.prog 85 #[.agg (taC ta).toArray, .agg (taC tb).toArray] w fun e w' => ∃ v, e = .returned v ∧ (v = .agg (taC (tjn ta tb)).toArray ∧ Below w.heap.size w w')) := fun w => (lTalJoin ta tb hl hl2 w).mono fun e w' hh => ⟨_, hh.1, rfl, hh.2⟩
  have HCC : Hid (∀ (g : Nat) (w : World), w.rangeAt g 0 [.slice none 0 0, .slice none 0 0] → Calls Try.prog 86 #[.slice (some ⟨g, 0, none⟩) 2 2] w fun e w' => ∃ v, e = .returned v ∧ (v = .slice none 0 0 ∧ w' = w)) := fun g w hh => (zConcat g w hh).mono fun e w' hh => ⟨_, hh.1, rfl, hh.2⟩
  have HSO : Hid (∀ w : World, Calls Try.prog 58 #[.slice none 0 0] w fun e w' => ∃ v, e = .returned v ∧ (v = .slice none 0 0 ∧ w' = w)) := fun w => (zSet w).mono fun e w' hh => ⟨_, hh.1, rfl, hh.2⟩
  have HBT : Hid (∀ W : World, (Instr.build 77 #[(0, .int .u8 (k : Int)), (1, .bool on2), (3, .agg (taC (tjn ta tb)).toArray), (4, .slice none 0 0)]).run Try.prog W = .ok (tyV k on2 none 0 0 (tjn ta tb) none 0 0) W) := fun W => bTyJ k on2 (unhide HTL) W
  have HN2 := hide hn2
  have HMX := hide hmx
  have HAB := hide ha
  have HBB := hide hb
  have HNN := hide hn
  have HLA := hide h
  have HLB := hide h2
  clear h h2 hn hn2 hmx ha hb hl hl2
  obtain ⟨N, hN⟩ : ∃ N, N = u.heap.size := ⟨_, rfl⟩
  have HN := hide hN
  rw [← hN]
  clear hN
  go_enter Try.func63, Try.ntmps63
  go_upto_region 1 with (first
    | ((with_reducible refine wpList_box_ty (by rfl) (.tmp 0) (by rfl) (some 2) (by rfl) N (unhide HN) k false fa n fc ta none 0 0 (by with_unfolding_all rfl) (unhide HL) ?_); intro W1 HX1 HB1 HS1; simp only [Act.put, List.setIfInBounds_toArray, List.set_cons_zero, List.set_cons_succ])
    | ((with_reducible refine wpList_box_ty (by rfl) (.tmp 1) (by rfl) (some 3) (by rfl) (N + 1) (unhide HS1).symm k on2 fb n fd tb none 0 0 (by with_unfolding_all rfl) (unhide HL2) ?_); intro W2 HX2 HB2 HS2; simp only [Act.put, List.setIfInBounds_toArray, List.set_cons_zero, List.set_cons_succ])
    | ((with_reducible refine wpList_alloc_ty (by rfl) (by rfl) (some 4) (by rfl) (N + 1 + 1) (unhide HS2).symm ?_); intro W0 HX3 HB3 HS3; simp only [Act.put, List.setIfInBounds_toArray, List.set_cons_zero, List.set_cons_succ])
    | fail)
  have HJ : Hid (J3 u W0 N k false fa n fc ta on2 fb fd tb) := ⟨((unhide HX1).same ((unhide HB2).block N (by omega))).same ((unhide HB3).block N (by omega)), (unhide HX2).same ((unhide HB3).block (N + 1) (by omega)), unhide HX3, (unhide HB1).trans (((unhide HB2).mono (by omega)).trans ((unhide HB3).mono (by omega)))⟩
  clear HX1 HB1 HS1 HX2 HB2 HS2 HX3 HB3 HS3
  go_cut [5] (fun s5 wx => ∃ M, s5 = .pointer (some ⟨M, 0, none⟩) ∧ Hid (N + 1 + 1 < M ∧ J3 u wx N k false fa n fc ta on2 fb fd tb ∧ Bt wx M k on2 none 0 0 (tjn ta tb) none 0 0))
  case first =>
    refine wp_region_last (fun v => J3 u v N k false fa n fc ta on2 fb fd tb) 22 hmix (unhide HJ).drew fun hS => ?_
    have HJ0 : Hid (J3 u W0.drew N k false fa n fc ta on2 fb fd tb) := (unhide HJ).drew
    generalize W0.drew = Z0 at hS HJ0 ⊢
    refine wpAnyL_take 0 8 (.pointer (some ⟨N, 0, none⟩)) [] rfl rfl (by kernel_rfl) (by kernel_rfl) (by kernel_rfl) (by kernel_rfl) (by kernel_rfl) (fun _ _ _ h => h) (by rfl) (fun _ _ => by go_simp) hS ?_
    simp only [Act.put, List.setIfInBounds_toArray, List.set_cons_zero, List.set_cons_succ]
    refine wpAnyL_take 1 9 (.int .u8 (k : Int)) [] rfl rfl (by kernel_rfl) (by kernel_rfl) (by kernel_rfl) (by kernel_rfl) (by kernel_rfl) (fun _ _ _ h => h) (by rfl) (fun v hv => by have q2 := hv.b0.c0; go_simp) hS ?_
    simp only [Act.put, List.setIfInBounds_toArray, List.set_cons_zero, List.set_cons_succ]
    refine wpAnyL_take 2 10 (.pointer (some ⟨N, 1, none⟩)) [] rfl rfl (by kernel_rfl) (by kernel_rfl) (by kernel_rfl) (by kernel_rfl) (by kernel_rfl) (fun _ _ _ h => h) (by rfl) (fun _ _ => by go_simp) hS ?_
    simp only [Act.put, List.setIfInBounds_toArray, List.set_cons_zero, List.set_cons_succ]
    refine wpAnyL_take 3 11 (.bool false) [] rfl rfl (by kernel_rfl) (by kernel_rfl) (by kernel_rfl) (by kernel_rfl) (by kernel_rfl) (fun _ _ _ h => h) (by rfl) (fun v hv => by have q2 := hv.b0.c1; go_simp) hS ?_
    simp only [Act.put, List.setIfInBounds_toArray, List.set_cons_zero, List.set_cons_succ]
    refine wpAnyL_take 4 12 (.bool false) [] rfl rfl (by kernel_rfl) (by kernel_rfl) (by kernel_rfl) (by kernel_rfl) (by kernel_rfl) (fun _ _ _ h => h) (by rfl) (fun _ _ => by go_simp) hS ?_
    simp only [Act.put, List.setIfInBounds_toArray, List.set_cons_zero, List.set_cons_succ]
    refine wpAnyL_take 5 13 (.pointer (some ⟨N + 1, 1, none⟩)) [] rfl rfl (by kernel_rfl) (by kernel_rfl) (by kernel_rfl) (by kernel_rfl) (by kernel_rfl) (fun _ _ _ h => h) (by rfl) (fun _ _ => by go_simp) hS ?_
    simp only [Act.put, List.setIfInBounds_toArray, List.set_cons_zero, List.set_cons_succ]
    refine wpAnyL_take 6 14 (.bool on2) [] rfl rfl (by kernel_rfl) (by kernel_rfl) (by kernel_rfl) (by kernel_rfl) (by kernel_rfl) (fun _ _ _ h => h) (by rfl) (fun v hv => by have q2 := hv.b1.c1; go_simp) hS ?_
    simp only [Act.put, List.setIfInBounds_toArray, List.set_cons_zero, List.set_cons_succ]
    refine wpAnyL_take 7 15 (.bool on2) [] rfl rfl (by kernel_rfl) (by kernel_rfl) (by kernel_rfl) (by kernel_rfl) (by kernel_rfl) (fun _ _ _ h => h) (by rfl) (fun _ _ => by go_simp) hS ?_
    simp only [Act.put, List.setIfInBounds_toArray, List.set_cons_zero, List.set_cons_succ]
    refine wpAnyL_take 8 16 (.pointer (some ⟨N, 3, none⟩)) [] rfl rfl (by kernel_rfl) (by kernel_rfl) (by kernel_rfl) (by kernel_rfl) (by kernel_rfl) (fun _ _ _ h => h) (by rfl) (fun _ _ => by go_simp) hS ?_
    simp only [Act.put, List.setIfInBounds_toArray, List.set_cons_zero, List.set_cons_succ]
    refine wpAnyL_take 9 17 (.agg (taC ta).toArray) [] rfl rfl (by kernel_rfl) (by kernel_rfl) (by kernel_rfl) (by kernel_rfl) (by kernel_rfl) (fun _ _ _ h => h) (by rfl) (fun v hv => ld_ta (by rfl) (by rfl) hv.b0) hS ?_
    simp only [Act.put, List.setIfInBounds_toArray, List.set_cons_zero, List.set_cons_succ]
    refine wpAnyL_take 10 18 (.pointer (some ⟨N + 1, 3, none⟩)) [] rfl rfl (by kernel_rfl) (by kernel_rfl) (by kernel_rfl) (by kernel_rfl) (by kernel_rfl) (fun _ _ _ h => h) (by rfl) (fun _ _ => by go_simp) hS ?_
    simp only [Act.put, List.setIfInBounds_toArray, List.set_cons_zero, List.set_cons_succ]
    refine wpAnyL_take 11 19 (.agg (taC tb).toArray) [] rfl rfl (by kernel_rfl) (by kernel_rfl) (by kernel_rfl) (by kernel_rfl) (by kernel_rfl) (fun _ _ _ h => h) (by rfl) (fun v hv => ld_ta (by rfl) (by rfl) hv.b1) hS ?_
    simp only [Act.put, List.setIfInBounds_toArray, List.set_cons_zero, List.set_cons_succ]
    refine wpAnyL_take 13 21 (.pointer (some ⟨N, 13, none⟩)) [] rfl rfl (by kernel_rfl) (by kernel_rfl) (by kernel_rfl) (by kernel_rfl) (by kernel_rfl) (fun _ _ _ h => h) (by rfl) (fun _ _ => by go_simp) hS ?_
    simp only [Act.put, List.setIfInBounds_toArray, List.set_cons_zero, List.set_cons_succ]
    refine wpAnyL_take 14 22 (.slice none 0 0) [] rfl rfl (by kernel_rfl) (by kernel_rfl) (by kernel_rfl) (by kernel_rfl) (by kernel_rfl) (fun _ _ _ h => h) (by rfl) (fun v hv => by have q2 := hv.b0.c13; go_simp) hS ?_
    simp only [Act.put, List.setIfInBounds_toArray, List.set_cons_zero, List.set_cons_succ]
    refine wpAnyL_take 15 23 (.pointer (some ⟨N + 1, 13, none⟩)) [] rfl rfl (by kernel_rfl) (by kernel_rfl) (by kernel_rfl) (by kernel_rfl) (by kernel_rfl) (fun _ _ _ h => h) (by rfl) (fun _ _ => by go_simp) hS ?_
    simp only [Act.put, List.setIfInBounds_toArray, List.set_cons_zero, List.set_cons_succ]
    refine wpAnyL_take 16 24 (.slice none 0 0) [] rfl rfl (by kernel_rfl) (by kernel_rfl) (by kernel_rfl) (by kernel_rfl) (by kernel_rfl) (fun _ _ _ h => h) (by rfl) (fun v hv => by have q2 := hv.b1.c13; go_simp) hS ?_
    simp only [Act.put, List.setIfInBounds_toArray, List.set_cons_zero, List.set_cons_succ]
    refine wpAnyL_three (i := 12) (j := 17) (l := 21) (by kernel_rfl) rfl rfl rfl (by rfl) (by rfl) (by rfl) (fun K hK => ?_) (fun K hK => ?_) (fun K hK => ?_) 
    · refine wp_call_fn 85 _ _ (by rfl) #[.agg (taC ta).toArray, .agg (taC tb).toArray] (by with_unfolding_all rfl) entTJ (some 20) (by rfl) _ (unhide HTJ Z0) ?_
      rintro _ Z1 ⟨rfl, hb⟩
      have HJ1 := hide ((unhide HJ0).belw hb)
      clear hb
      refine hK _ _ (fun _ => unhide HJ1) ?_
      clear hK K
      simp only [Act.put, List.setIfInBounds_toArray, List.set_cons_zero, List.set_cons_succ]
      refine wpAnyL_two (i := 17) (j := 21) (by kernel_rfl) rfl rfl (by rfl) (by rfl) (fun K hK => ?_) (fun K hK => ?_) 
      · refine wp_buildTo (by rfl) _ _ (by simp only [List.map_toArray, List.map_cons, List.map_nil]; exact bsRR Z1) (some 25) (by rfl) ?_
        have hb0 : Below Z1.heap.size Z1 (Z1.alloc (.cells #[.slice none 0 0, .slice none 0 0] 30)) := (Below.refl _ _).alloc (Nat.le_refl _) _
        have HGZ2 := hide (rr_new Z1 30)
        generalize Z1.alloc (.cells #[.slice none 0 0, .slice none 0 0] 30) = Z2 at hb0 HGZ2 ⊢
        have hb := hb0
        have HJ2 := hide ((unhide HJ1).belw hb)
        clear hb hb0
        generalize Z1.heap.size = G at HGZ2 ⊢
        refine hK _ _ (fun _ => unhide HJ2) ?_
        clear hK K
        simp only [Act.put, List.setIfInBounds_toArray, List.set_cons_zero, List.set_cons_succ]
        refine wpAnyL_two (i := 18) (j := 21) (by kernel_rfl) rfl rfl (by rfl) (by rfl) (fun K hK => ?_) (fun K hK => ?_) 
        · refine wp_call_fn 86 _ _ (by rfl) #[.slice (some ⟨G, 0, none⟩) 2 2] (by with_unfolding_all rfl) entCC (some 26) (by rfl) _ (unhide HCC G Z2 (unhide HGZ2)) ?_
          rintro _ Z3 ⟨rfl, hw⟩
          obtain rfl := hw.symm
          refine hK _ _ (fun _ => unhide HJ2) ?_
          clear hK K
          simp only [Act.put, List.setIfInBounds_toArray, List.set_cons_zero, List.set_cons_succ]
          refine wpAnyL_two (i := 19) (j := 21) (by kernel_rfl) rfl rfl (by rfl) (by rfl) (fun K hK => ?_) (fun K hK => ?_) 
          · refine wp_call_fn 58 _ _ (by rfl) #[.slice none 0 0] (by with_unfolding_all rfl) entSO (some 27) (by rfl) _ (unhide HSO Z2) ?_
            rintro _ Z4 ⟨rfl, hw⟩
            obtain rfl := hw.symm
            refine hK _ _ (fun _ => unhide HJ2) ?_
            clear hK K
            simp only [Act.put, List.setIfInBounds_toArray, List.set_cons_zero, List.set_cons_succ]
            refine wpAnyL_two (i := 20) (j := 21) (by kernel_rfl) rfl rfl (by rfl) (by rfl) (fun K hK => ?_) (fun K hK => ?_) 
            · refine wp_bld (by rfl) _ (by simp only [List.map_toArray, List.map_cons, List.map_nil]; exact unhide HBT Z2) (some 28) (by rfl) ?_
              refine hK _ _ (fun _ => unhide HJ2) ?_
              clear hK K
              simp only [Act.put, List.setIfInBounds_toArray, List.set_cons_zero, List.set_cons_succ]
              refine wpAnyL_one (i := 21) (by kernel_rfl) rfl (by rfl) fun K hK => ?_
              refine wp_alloc_ty (by rfl) (some 5) (by rfl) ?_
              intro Z6 HMZ6 hb
              have HMN : Hid (N + 1 + 1 < Z2.heap.size) := (unhide HJ2).b2.lt
              have hb := unhide hb
              have HJ6 := hide ((unhide HJ2).belw hb)
              have HGZ6 := hide (rng_keep (unhide HGZ2) hb)
              clear hb
              generalize Z2.heap.size = M at HMZ6 HMN ⊢
              refine hK _ _ (fun _ => unhide HJ6) ?_
              clear hK K
              simp only [Act.put, List.setIfInBounds_toArray, List.set_cons_zero, List.set_cons_succ]
              refine wpAnyL_one (i := 22) (by kernel_rfl) rfl (by rfl) fun K hK => ?_
              refine wp_store_ty (.tmp 5) (.tmp 28) (by rfl) (by rfl) M k on2 none 0 0 (tjn ta tb) none 0 0 (by rfl) (by rfl) (unhide HTL) (unhide HMZ6) ?_
              intro Z9 HX9 HE9 HS9 HO9
              have HJ9 : Hid (J3 u Z9 N k false fa n fc ta on2 fb fd tb) := (unhide HJ6).set (unhide HMN) (unhide HE9) (unhide HO9)
              refine hK _ _ (fun h => absurd rfl h) ?_
              clear hK K
              refine wpAnyL_done (by kernel_rfl) ?_ _
              go_wp2_with fail
              go_meet
              exact ⟨M, rfl, ⟨unhide HMN, unhide HJ9, unhide HX9⟩⟩
            · refine wp_alloc_ty (by rfl) (some 5) (by rfl) ?_
              intro Z5 HMZ5 hb
              have HMN : Hid (N + 1 + 1 < Z2.heap.size) := (unhide HJ2).b2.lt
              have hb := unhide hb
              have HJ5 := hide ((unhide HJ2).belw hb)
              have HGZ5 := hide (rng_keep (unhide HGZ2) hb)
              clear hb
              generalize Z2.heap.size = M at HMZ5 HMN ⊢
              refine hK _ _ (fun _ => unhide HJ5) ?_
              clear hK K
              simp only [Act.put, List.setIfInBounds_toArray, List.set_cons_zero, List.set_cons_succ]
              refine wpAnyL_one (i := 20) (by kernel_rfl) rfl (by rfl) fun K hK => ?_
              refine wp_bld (by rfl) _ (by simp only [List.map_toArray, List.map_cons, List.map_nil]; exact unhide HBT Z5) (some 28) (by rfl) ?_
              refine hK _ _ (fun _ => unhide HJ5) ?_
              clear hK K
              simp only [Act.put, List.setIfInBounds_toArray, List.set_cons_zero, List.set_cons_succ]
              refine wpAnyL_one (i := 22) (by kernel_rfl) rfl (by rfl) fun K hK => ?_
              refine wp_store_ty (.tmp 5) (.tmp 28) (by rfl) (by rfl) M k on2 none 0 0 (tjn ta tb) none 0 0 (by rfl) (by rfl) (unhide HTL) (unhide HMZ5) ?_
              intro Z9 HX9 HE9 HS9 HO9
              have HJ9 : Hid (J3 u Z9 N k false fa n fc ta on2 fb fd tb) := (unhide HJ5).set (unhide HMN) (unhide HE9) (unhide HO9)
              refine hK _ _ (fun h => absurd rfl h) ?_
              clear hK K
              refine wpAnyL_done (by kernel_rfl) ?_ _
              go_wp2_with fail
              go_meet
              exact ⟨M, rfl, ⟨unhide HMN, unhide HJ9, unhide HX9⟩⟩
          · refine wp_alloc_ty (by rfl) (some 5) (by rfl) ?_
            intro Z4 HMZ4 hb
            have HMN : Hid (N + 1 + 1 < Z2.heap.size) := (unhide HJ2).b2.lt
            have hb := unhide hb
            have HJ4 := hide ((unhide HJ2).belw hb)
            have HGZ4 := hide (rng_keep (unhide HGZ2) hb)
            clear hb
            generalize Z2.heap.size = M at HMZ4 HMN ⊢
            refine hK _ _ (fun _ => unhide HJ4) ?_
            clear hK K
            simp only [Act.put, List.setIfInBounds_toArray, List.set_cons_zero, List.set_cons_succ]
            refine wpAnyL_one (i := 19) (by kernel_rfl) rfl (by rfl) fun K hK => ?_
            refine wp_call_fn 58 _ _ (by rfl) #[.slice none 0 0] (by with_unfolding_all rfl) entSO (some 27) (by rfl) _ (unhide HSO Z4) ?_
            rintro _ Z5 ⟨rfl, hw⟩
            obtain rfl := hw.symm
            refine hK _ _ (fun _ => unhide HJ4) ?_
            clear hK K
            simp only [Act.put, List.setIfInBounds_toArray, List.set_cons_zero, List.set_cons_succ]
            refine wpAnyL_one (i := 20) (by kernel_rfl) rfl (by rfl) fun K hK => ?_
            refine wp_bld (by rfl) _ (by simp only [List.map_toArray, List.map_cons, List.map_nil]; exact unhide HBT Z4) (some 28) (by rfl) ?_
            refine hK _ _ (fun _ => unhide HJ4) ?_
            clear hK K
            simp only [Act.put, List.setIfInBounds_toArray, List.set_cons_zero, List.set_cons_succ]
            refine wpAnyL_one (i := 22) (by kernel_rfl) rfl (by rfl) fun K hK => ?_
            refine wp_store_ty (.tmp 5) (.tmp 28) (by rfl) (by rfl) M k on2 none 0 0 (tjn ta tb) none 0 0 (by rfl) (by rfl) (unhide HTL) (unhide HMZ4) ?_
            intro Z9 HX9 HE9 HS9 HO9
            have HJ9 : Hid (J3 u Z9 N k false fa n fc ta on2 fb fd tb) := (unhide HJ4).set (unhide HMN) (unhide HE9) (unhide HO9)
            refine hK _ _ (fun h => absurd rfl h) ?_
            clear hK K
            refine wpAnyL_done (by kernel_rfl) ?_ _
            go_wp2_with fail
            go_meet
            exact ⟨M, rfl, ⟨unhide HMN, unhide HJ9, unhide HX9⟩⟩
        · refine wp_alloc_ty (by rfl) (some 5) (by rfl) ?_
          intro Z3 HMZ3 hb
          have HMN : Hid (N + 1 + 1 < Z2.heap.size) := (unhide HJ2).b2.lt
          have hb := unhide hb
          have HJ3 := hide ((unhide HJ2).belw hb)
          have HGZ3 := hide (rng_keep (unhide HGZ2) hb)
          clear hb
          generalize Z2.heap.size = M at HMZ3 HMN ⊢
          refine hK _ _ (fun _ => unhide HJ3) ?_
          clear hK K
          simp only [Act.put, List.setIfInBounds_toArray, List.set_cons_zero, List.set_cons_succ]
          refine wpAnyL_one (i := 18) (by kernel_rfl) rfl (by rfl) fun K hK => ?_
          refine wp_call_fn 86 _ _ (by rfl) #[.slice (some ⟨G, 0, none⟩) 2 2] (by with_unfolding_all rfl) entCC (some 26) (by rfl) _ (unhide HCC G Z3 (unhide HGZ3)) ?_
          rintro _ Z4 ⟨rfl, hw⟩
          obtain rfl := hw.symm
          refine hK _ _ (fun _ => unhide HJ3) ?_
          clear hK K
          simp only [Act.put, List.setIfInBounds_toArray, List.set_cons_zero, List.set_cons_succ]
          refine wpAnyL_one (i := 19) (by kernel_rfl) rfl (by rfl) fun K hK => ?_
          refine wp_call_fn 58 _ _ (by rfl) #[.slice none 0 0] (by with_unfolding_all rfl) entSO (some 27) (by rfl) _ (unhide HSO Z3) ?_
          rintro _ Z5 ⟨rfl, hw⟩
          obtain rfl := hw.symm
          refine hK _ _ (fun _ => unhide HJ3) ?_
          clear hK K
          simp only [Act.put, List.setIfInBounds_toArray, List.set_cons_zero, List.set_cons_succ]
          refine wpAnyL_one (i := 20) (by kernel_rfl) rfl (by rfl) fun K hK => ?_
          refine wp_bld (by rfl) _ (by simp only [List.map_toArray, List.map_cons, List.map_nil]; exact unhide HBT Z3) (some 28) (by rfl) ?_
          refine hK _ _ (fun _ => unhide HJ3) ?_
          clear hK K
          simp only [Act.put, List.setIfInBounds_toArray, List.set_cons_zero, List.set_cons_succ]
          refine wpAnyL_one (i := 22) (by kernel_rfl) rfl (by rfl) fun K hK => ?_
          refine wp_store_ty (.tmp 5) (.tmp 28) (by rfl) (by rfl) M k on2 none 0 0 (tjn ta tb) none 0 0 (by rfl) (by rfl) (unhide HTL) (unhide HMZ3) ?_
          intro Z9 HX9 HE9 HS9 HO9
          have HJ9 : Hid (J3 u Z9 N k false fa n fc ta on2 fb fd tb) := (unhide HJ3).set (unhide HMN) (unhide HE9) (unhide HO9)
          refine hK _ _ (fun h => absurd rfl h) ?_
          clear hK K
          refine wpAnyL_done (by kernel_rfl) ?_ _
          go_wp2_with fail
          go_meet
          exact ⟨M, rfl, ⟨unhide HMN, unhide HJ9, unhide HX9⟩⟩
      · refine wp_alloc_ty (by rfl) (some 5) (by rfl) ?_
        intro Z2 HMZ2 hb
        have HMN : Hid (N + 1 + 1 < Z1.heap.size) := (unhide HJ1).b2.lt
        have hb := unhide hb
        have HJ2 := hide ((unhide HJ1).belw hb)
        clear hb
        generalize Z1.heap.size = M at HMZ2 HMN ⊢
        refine hK _ _ (fun _ => unhide HJ2) ?_
        clear hK K
        simp only [Act.put, List.setIfInBounds_toArray, List.set_cons_zero, List.set_cons_succ]
        refine wpAnyL_one (i := 17) (by kernel_rfl) rfl (by rfl) fun K hK => ?_
        refine wp_buildTo (by rfl) _ _ (by simp only [List.map_toArray, List.map_cons, List.map_nil]; exact bsRR Z2) (some 25) (by rfl) ?_
        have hb0 : Below Z2.heap.size Z2 (Z2.alloc (.cells #[.slice none 0 0, .slice none 0 0] 30)) := (Below.refl _ _).alloc (Nat.le_refl _) _
        have HGZ3 := hide (rr_new Z2 30)
        generalize Z2.alloc (.cells #[.slice none 0 0, .slice none 0 0] 30) = Z3 at hb0 HGZ3 ⊢
        have hb := hb0
        have HJ3 := hide ((unhide HJ2).belw hb)
        have HMZ3 := hide ((unhide HMZ2).below hb)
        clear hb hb0
        generalize Z2.heap.size = G at HGZ3 ⊢
        refine hK _ _ (fun _ => unhide HJ3) ?_
        clear hK K
        simp only [Act.put, List.setIfInBounds_toArray, List.set_cons_zero, List.set_cons_succ]
        refine wpAnyL_one (i := 18) (by kernel_rfl) rfl (by rfl) fun K hK => ?_
        refine wp_call_fn 86 _ _ (by rfl) #[.slice (some ⟨G, 0, none⟩) 2 2] (by with_unfolding_all rfl) entCC (some 26) (by rfl) _ (unhide HCC G Z3 (unhide HGZ3)) ?_
        rintro _ Z4 ⟨rfl, hw⟩
        obtain rfl := hw.symm
        refine hK _ _ (fun _ => unhide HJ3) ?_
        clear hK K
        simp only [Act.put, List.setIfInBounds_toArray, List.set_cons_zero, List.set_cons_succ]
        refine wpAnyL_one (i := 19) (by kernel_rfl) rfl (by rfl) fun K hK => ?_
        refine wp_call_fn 58 _ _ (by rfl) #[.slice none 0 0] (by with_unfolding_all rfl) entSO (some 27) (by rfl) _ (unhide HSO Z3) ?_
        rintro _ Z5 ⟨rfl, hw⟩
        obtain rfl := hw.symm
        refine hK _ _ (fun _ => unhide HJ3) ?_
        clear hK K
        simp only [Act.put, List.setIfInBounds_toArray, List.set_cons_zero, List.set_cons_succ]
        refine wpAnyL_one (i := 20) (by kernel_rfl) rfl (by rfl) fun K hK => ?_
        refine wp_bld (by rfl) _ (by simp only [List.map_toArray, List.map_cons, List.map_nil]; exact unhide HBT Z3) (some 28) (by rfl) ?_
        refine hK _ _ (fun _ => unhide HJ3) ?_
        clear hK K
        simp only [Act.put, List.setIfInBounds_toArray, List.set_cons_zero, List.set_cons_succ]
        refine wpAnyL_one (i := 22) (by kernel_rfl) rfl (by rfl) fun K hK => ?_
        refine wp_store_ty (.tmp 5) (.tmp 28) (by rfl) (by rfl) M k on2 none 0 0 (tjn ta tb) none 0 0 (by rfl) (by rfl) (unhide HTL) (unhide HMZ3) ?_
        intro Z9 HX9 HE9 HS9 HO9
        have HJ9 : Hid (J3 u Z9 N k false fa n fc ta on2 fb fd tb) := (unhide HJ3).set (unhide HMN) (unhide HE9) (unhide HO9)
        refine hK _ _ (fun h => absurd rfl h) ?_
        clear hK K
        refine wpAnyL_done (by kernel_rfl) ?_ _
        go_wp2_with fail
        go_meet
        exact ⟨M, rfl, ⟨unhide HMN, unhide HJ9, unhide HX9⟩⟩
    · refine wp_buildTo (by rfl) _ _ (by simp only [List.map_toArray, List.map_cons, List.map_nil]; exact bsRR Z0) (some 25) (by rfl) ?_
      have hb0 : Below Z0.heap.size Z0 (Z0.alloc (.cells #[.slice none 0 0, .slice none 0 0] 30)) := (Below.refl _ _).alloc (Nat.le_refl _) _
      have HGZ1 := hide (rr_new Z0 30)
      generalize Z0.alloc (.cells #[.slice none 0 0, .slice none 0 0] 30) = Z1 at hb0 HGZ1 ⊢
      have hb := hb0
      have HJ1 := hide ((unhide HJ0).belw hb)
      clear hb hb0
      generalize Z0.heap.size = G at HGZ1 ⊢
      refine hK _ _ (fun _ => unhide HJ1) ?_
      clear hK K
      simp only [Act.put, List.setIfInBounds_toArray, List.set_cons_zero, List.set_cons_succ]
      refine wpAnyL_two (i := 12) (j := 21) (by kernel_rfl) rfl rfl (by rfl) (by rfl) (fun K hK => ?_) (fun K hK => ?_) 
      · refine wp_call_fn 85 _ _ (by rfl) #[.agg (taC ta).toArray, .agg (taC tb).toArray] (by with_unfolding_all rfl) entTJ (some 20) (by rfl) _ (unhide HTJ Z1) ?_
        rintro _ Z2 ⟨rfl, hb⟩
        have HJ2 := hide ((unhide HJ1).belw hb)
        have HGZ2 := hide (rng_keep (unhide HGZ1) hb)
        clear hb
        refine hK _ _ (fun _ => unhide HJ2) ?_
        clear hK K
        simp only [Act.put, List.setIfInBounds_toArray, List.set_cons_zero, List.set_cons_succ]
        refine wpAnyL_two (i := 18) (j := 21) (by kernel_rfl) rfl rfl (by rfl) (by rfl) (fun K hK => ?_) (fun K hK => ?_) 
        · refine wp_call_fn 86 _ _ (by rfl) #[.slice (some ⟨G, 0, none⟩) 2 2] (by with_unfolding_all rfl) entCC (some 26) (by rfl) _ (unhide HCC G Z2 (unhide HGZ2)) ?_
          rintro _ Z3 ⟨rfl, hw⟩
          obtain rfl := hw.symm
          refine hK _ _ (fun _ => unhide HJ2) ?_
          clear hK K
          simp only [Act.put, List.setIfInBounds_toArray, List.set_cons_zero, List.set_cons_succ]
          refine wpAnyL_two (i := 19) (j := 21) (by kernel_rfl) rfl rfl (by rfl) (by rfl) (fun K hK => ?_) (fun K hK => ?_) 
          · refine wp_call_fn 58 _ _ (by rfl) #[.slice none 0 0] (by with_unfolding_all rfl) entSO (some 27) (by rfl) _ (unhide HSO Z2) ?_
            rintro _ Z4 ⟨rfl, hw⟩
            obtain rfl := hw.symm
            refine hK _ _ (fun _ => unhide HJ2) ?_
            clear hK K
            simp only [Act.put, List.setIfInBounds_toArray, List.set_cons_zero, List.set_cons_succ]
            refine wpAnyL_two (i := 20) (j := 21) (by kernel_rfl) rfl rfl (by rfl) (by rfl) (fun K hK => ?_) (fun K hK => ?_) 
            · refine wp_bld (by rfl) _ (by simp only [List.map_toArray, List.map_cons, List.map_nil]; exact unhide HBT Z2) (some 28) (by rfl) ?_
              refine hK _ _ (fun _ => unhide HJ2) ?_
              clear hK K
              simp only [Act.put, List.setIfInBounds_toArray, List.set_cons_zero, List.set_cons_succ]
              refine wpAnyL_one (i := 21) (by kernel_rfl) rfl (by rfl) fun K hK => ?_
              refine wp_alloc_ty (by rfl) (some 5) (by rfl) ?_
              intro Z6 HMZ6 hb
              have HMN : Hid (N + 1 + 1 < Z2.heap.size) := (unhide HJ2).b2.lt
              have hb := unhide hb
              have HJ6 := hide ((unhide HJ2).belw hb)
              have HGZ6 := hide (rng_keep (unhide HGZ2) hb)
              clear hb
              generalize Z2.heap.size = M at HMZ6 HMN ⊢
              refine hK _ _ (fun _ => unhide HJ6) ?_
              clear hK K
              simp only [Act.put, List.setIfInBounds_toArray, List.set_cons_zero, List.set_cons_succ]
              refine wpAnyL_one (i := 22) (by kernel_rfl) rfl (by rfl) fun K hK => ?_
              refine wp_store_ty (.tmp 5) (.tmp 28) (by rfl) (by rfl) M k on2 none 0 0 (tjn ta tb) none 0 0 (by rfl) (by rfl) (unhide HTL) (unhide HMZ6) ?_
              intro Z9 HX9 HE9 HS9 HO9
              have HJ9 : Hid (J3 u Z9 N k false fa n fc ta on2 fb fd tb) := (unhide HJ6).set (unhide HMN) (unhide HE9) (unhide HO9)
              refine hK _ _ (fun h => absurd rfl h) ?_
              clear hK K
              refine wpAnyL_done (by kernel_rfl) ?_ _
              go_wp2_with fail
              go_meet
              exact ⟨M, rfl, ⟨unhide HMN, unhide HJ9, unhide HX9⟩⟩
            · refine wp_alloc_ty (by rfl) (some 5) (by rfl) ?_
              intro Z5 HMZ5 hb
              have HMN : Hid (N + 1 + 1 < Z2.heap.size) := (unhide HJ2).b2.lt
              have hb := unhide hb
              have HJ5 := hide ((unhide HJ2).belw hb)
              have HGZ5 := hide (rng_keep (unhide HGZ2) hb)
              clear hb
              generalize Z2.heap.size = M at HMZ5 HMN ⊢
              refine hK _ _ (fun _ => unhide HJ5) ?_
              clear hK K
              simp only [Act.put, List.setIfInBounds_toArray, List.set_cons_zero, List.set_cons_succ]
              refine wpAnyL_one (i := 20) (by kernel_rfl) rfl (by rfl) fun K hK => ?_
              refine wp_bld (by rfl) _ (by simp only [List.map_toArray, List.map_cons, List.map_nil]; exact unhide HBT Z5) (some 28) (by rfl) ?_
              refine hK _ _ (fun _ => unhide HJ5) ?_
              clear hK K
              simp only [Act.put, List.setIfInBounds_toArray, List.set_cons_zero, List.set_cons_succ]
              refine wpAnyL_one (i := 22) (by kernel_rfl) rfl (by rfl) fun K hK => ?_
              refine wp_store_ty (.tmp 5) (.tmp 28) (by rfl) (by rfl) M k on2 none 0 0 (tjn ta tb) none 0 0 (by rfl) (by rfl) (unhide HTL) (unhide HMZ5) ?_
              intro Z9 HX9 HE9 HS9 HO9
              have HJ9 : Hid (J3 u Z9 N k false fa n fc ta on2 fb fd tb) := (unhide HJ5).set (unhide HMN) (unhide HE9) (unhide HO9)
              refine hK _ _ (fun h => absurd rfl h) ?_
              clear hK K
              refine wpAnyL_done (by kernel_rfl) ?_ _
              go_wp2_with fail
              go_meet
              exact ⟨M, rfl, ⟨unhide HMN, unhide HJ9, unhide HX9⟩⟩
          · refine wp_alloc_ty (by rfl) (some 5) (by rfl) ?_
            intro Z4 HMZ4 hb
            have HMN : Hid (N + 1 + 1 < Z2.heap.size) := (unhide HJ2).b2.lt
            have hb := unhide hb
            have HJ4 := hide ((unhide HJ2).belw hb)
            have HGZ4 := hide (rng_keep (unhide HGZ2) hb)
            clear hb
            generalize Z2.heap.size = M at HMZ4 HMN ⊢
            refine hK _ _ (fun _ => unhide HJ4) ?_
            clear hK K
            simp only [Act.put, List.setIfInBounds_toArray, List.set_cons_zero, List.set_cons_succ]
            refine wpAnyL_one (i := 19) (by kernel_rfl) rfl (by rfl) fun K hK => ?_
            refine wp_call_fn 58 _ _ (by rfl) #[.slice none 0 0] (by with_unfolding_all rfl) entSO (some 27) (by rfl) _ (unhide HSO Z4) ?_
            rintro _ Z5 ⟨rfl, hw⟩
            obtain rfl := hw.symm
            refine hK _ _ (fun _ => unhide HJ4) ?_
            clear hK K
            simp only [Act.put, List.setIfInBounds_toArray, List.set_cons_zero, List.set_cons_succ]
            refine wpAnyL_one (i := 20) (by kernel_rfl) rfl (by rfl) fun K hK => ?_
            refine wp_bld (by rfl) _ (by simp only [List.map_toArray, List.map_cons, List.map_nil]; exact unhide HBT Z4) (some 28) (by rfl) ?_
            refine hK _ _ (fun _ => unhide HJ4) ?_
            clear hK K
            simp only [Act.put, List.setIfInBounds_toArray, List.set_cons_zero, List.set_cons_succ]
            refine wpAnyL_one (i := 22) (by kernel_rfl) rfl (by rfl) fun K hK => ?_
            refine wp_store_ty (.tmp 5) (.tmp 28) (by rfl) (by rfl) M k on2 none 0 0 (tjn ta tb) none 0 0 (by rfl) (by rfl) (unhide HTL) (unhide HMZ4) ?_
            intro Z9 HX9 HE9 HS9 HO9
            have HJ9 : Hid (J3 u Z9 N k false fa n fc ta on2 fb fd tb) := (unhide HJ4).set (unhide HMN) (unhide HE9) (unhide HO9)
            refine hK _ _ (fun h => absurd rfl h) ?_
            clear hK K
            refine wpAnyL_done (by kernel_rfl) ?_ _
            go_wp2_with fail
            go_meet
            exact ⟨M, rfl, ⟨unhide HMN, unhide HJ9, unhide HX9⟩⟩
        · refine wp_alloc_ty (by rfl) (some 5) (by rfl) ?_
          intro Z3 HMZ3 hb
          have HMN : Hid (N + 1 + 1 < Z2.heap.size) := (unhide HJ2).b2.lt
          have hb := unhide hb
          have HJ3 := hide ((unhide HJ2).belw hb)
          have HGZ3 := hide (rng_keep (unhide HGZ2) hb)
          clear hb
          generalize Z2.heap.size = M at HMZ3 HMN ⊢
          refine hK _ _ (fun _ => unhide HJ3) ?_
          clear hK K
          simp only [Act.put, List.setIfInBounds_toArray, List.set_cons_zero, List.set_cons_succ]
          refine wpAnyL_one (i := 18) (by kernel_rfl) rfl (by rfl) fun K hK => ?_
          refine wp_call_fn 86 _ _ (by rfl) #[.slice (some ⟨G, 0, none⟩) 2 2] (by with_unfolding_all rfl) entCC (some 26) (by rfl) _ (unhide HCC G Z3 (unhide HGZ3)) ?_
          rintro _ Z4 ⟨rfl, hw⟩
          obtain rfl := hw.symm
          refine hK _ _ (fun _ => unhide HJ3) ?_
          clear hK K
          simp only [Act.put, List.setIfInBounds_toArray, List.set_cons_zero, List.set_cons_succ]
          refine wpAnyL_one (i := 19) (by kernel_rfl) rfl (by rfl) fun K hK => ?_
          refine wp_call_fn 58 _ _ (by rfl) #[.slice none 0 0] (by with_unfolding_all rfl) entSO (some 27) (by rfl) _ (unhide HSO Z3) ?_
          rintro _ Z5 ⟨rfl, hw⟩
          obtain rfl := hw.symm
          refine hK _ _ (fun _ => unhide HJ3) ?_
          clear hK K
          simp only [Act.put, List.setIfInBounds_toArray, List.set_cons_zero, List.set_cons_succ]
          refine wpAnyL_one (i := 20) (by kernel_rfl) rfl (by rfl) fun K hK => ?_
          refine wp_bld (by rfl) _ (by simp only [List.map_toArray, List.map_cons, List.map_nil]; exact unhide HBT Z3) (some 28) (by rfl) ?_
          refine hK _ _ (fun _ => unhide HJ3) ?_
          clear hK K
          simp only [Act.put, List.setIfInBounds_toArray, List.set_cons_zero, List.set_cons_succ]
          refine wpAnyL_one (i := 22) (by kernel_rfl) rfl (by rfl) fun K hK => ?_
          refine wp_store_ty (.tmp 5) (.tmp 28) (by rfl) (by rfl) M k on2 none 0 0 (tjn ta tb) none 0 0 (by rfl) (by rfl) (unhide HTL) (unhide HMZ3) ?_
          intro Z9 HX9 HE9 HS9 HO9
          have HJ9 : Hid (J3 u Z9 N k false fa n fc ta on2 fb fd tb) := (unhide HJ3).set (unhide HMN) (unhide HE9) (unhide HO9)
          refine hK _ _ (fun h => absurd rfl h) ?_
          clear hK K
          refine wpAnyL_done (by kernel_rfl) ?_ _
          go_wp2_with fail
          go_meet
          exact ⟨M, rfl, ⟨unhide HMN, unhide HJ9, unhide HX9⟩⟩
      · refine wp_alloc_ty (by rfl) (some 5) (by rfl) ?_
        intro Z2 HMZ2 hb
        have HMN : Hid (N + 1 + 1 < Z1.heap.size) := (unhide HJ1).b2.lt
        have hb := unhide hb
        have HJ2 := hide ((unhide HJ1).belw hb)
        have HGZ2 := hide (rng_keep (unhide HGZ1) hb)
        clear hb
        generalize Z1.heap.size = M at HMZ2 HMN ⊢
        refine hK _ _ (fun _ => unhide HJ2) ?_
        clear hK K
        simp only [Act.put, List.setIfInBounds_toArray, List.set_cons_zero, List.set_cons_succ]
        refine wpAnyL_one (i := 12) (by kernel_rfl) rfl (by rfl) fun K hK => ?_
        refine wp_call_fn 85 _ _ (by rfl) #[.agg (taC ta).toArray, .agg (taC tb).toArray] (by with_unfolding_all rfl) entTJ (some 20) (by rfl) _ (unhide HTJ Z2) ?_
        rintro _ Z3 ⟨rfl, hb⟩
        have HJ3 := hide ((unhide HJ2).belw hb)
        have HGZ3 := hide (rng_keep (unhide HGZ2) hb)
        have HMZ3 := hide ((unhide HMZ2).below hb)
        clear hb
        refine hK _ _ (fun _ => unhide HJ3) ?_
        clear hK K
        simp only [Act.put, List.setIfInBounds_toArray, List.set_cons_zero, List.set_cons_succ]
        refine wpAnyL_one (i := 18) (by kernel_rfl) rfl (by rfl) fun K hK => ?_
        refine wp_call_fn 86 _ _ (by rfl) #[.slice (some ⟨G, 0, none⟩) 2 2] (by with_unfolding_all rfl) entCC (some 26) (by rfl) _ (unhide HCC G Z3 (unhide HGZ3)) ?_
        rintro _ Z4 ⟨rfl, hw⟩
        obtain rfl := hw.symm
        refine hK _ _ (fun _ => unhide HJ3) ?_
        clear hK K
        simp only [Act.put, List.setIfInBounds_toArray, List.set_cons_zero, List.set_cons_succ]
        refine wpAnyL_one (i := 19) (by kernel_rfl) rfl (by rfl) fun K hK => ?_
        refine wp_call_fn 58 _ _ (by rfl) #[.slice none 0 0] (by with_unfolding_all rfl) entSO (some 27) (by rfl) _ (unhide HSO Z3) ?_
        rintro _ Z5 ⟨rfl, hw⟩
        obtain rfl := hw.symm
        refine hK _ _ (fun _ => unhide HJ3) ?_
        clear hK K
        simp only [Act.put, List.setIfInBounds_toArray, List.set_cons_zero, List.set_cons_succ]
        refine wpAnyL_one (i := 20) (by kernel_rfl) rfl (by rfl) fun K hK => ?_
        refine wp_bld (by rfl) _ (by simp only [List.map_toArray, List.map_cons, List.map_nil]; exact unhide HBT Z3) (some 28) (by rfl) ?_
        refine hK _ _ (fun _ => unhide HJ3) ?_
        clear hK K
        simp only [Act.put, List.setIfInBounds_toArray, List.set_cons_zero, List.set_cons_succ]
        refine wpAnyL_one (i := 22) (by kernel_rfl) rfl (by rfl) fun K hK => ?_
        refine wp_store_ty (.tmp 5) (.tmp 28) (by rfl) (by rfl) M k on2 none 0 0 (tjn ta tb) none 0 0 (by rfl) (by rfl) (unhide HTL) (unhide HMZ3) ?_
        intro Z9 HX9 HE9 HS9 HO9
        have HJ9 : Hid (J3 u Z9 N k false fa n fc ta on2 fb fd tb) := (unhide HJ3).set (unhide HMN) (unhide HE9) (unhide HO9)
        refine hK _ _ (fun h => absurd rfl h) ?_
        clear hK K
        refine wpAnyL_done (by kernel_rfl) ?_ _
        go_wp2_with fail
        go_meet
        exact ⟨M, rfl, ⟨unhide HMN, unhide HJ9, unhide HX9⟩⟩
    · refine wp_alloc_ty (by rfl) (some 5) (by rfl) ?_
      intro Z1 HMZ1 hb
      have HMN : Hid (N + 1 + 1 < Z0.heap.size) := (unhide HJ0).b2.lt
      have hb := unhide hb
      have HJ1 := hide ((unhide HJ0).belw hb)
      clear hb
      generalize Z0.heap.size = M at HMZ1 HMN ⊢
      refine hK _ _ (fun _ => unhide HJ1) ?_
      clear hK K
      simp only [Act.put, List.setIfInBounds_toArray, List.set_cons_zero, List.set_cons_succ]
      refine wpAnyL_two (i := 12) (j := 17) (by kernel_rfl) rfl rfl (by rfl) (by rfl) (fun K hK => ?_) (fun K hK => ?_) 
      · refine wp_call_fn 85 _ _ (by rfl) #[.agg (taC ta).toArray, .agg (taC tb).toArray] (by with_unfolding_all rfl) entTJ (some 20) (by rfl) _ (unhide HTJ Z1) ?_
        rintro _ Z2 ⟨rfl, hb⟩
        have HJ2 := hide ((unhide HJ1).belw hb)
        have HMZ2 := hide ((unhide HMZ1).below hb)
        clear hb
        refine hK _ _ (fun _ => unhide HJ2) ?_
        clear hK K
        simp only [Act.put, List.setIfInBounds_toArray, List.set_cons_zero, List.set_cons_succ]
        refine wpAnyL_one (i := 17) (by kernel_rfl) rfl (by rfl) fun K hK => ?_
        refine wp_buildTo (by rfl) _ _ (by simp only [List.map_toArray, List.map_cons, List.map_nil]; exact bsRR Z2) (some 25) (by rfl) ?_
        have hb0 : Below Z2.heap.size Z2 (Z2.alloc (.cells #[.slice none 0 0, .slice none 0 0] 30)) := (Below.refl _ _).alloc (Nat.le_refl _) _
        have HGZ3 := hide (rr_new Z2 30)
        generalize Z2.alloc (.cells #[.slice none 0 0, .slice none 0 0] 30) = Z3 at hb0 HGZ3 ⊢
        have hb := hb0
        have HJ3 := hide ((unhide HJ2).belw hb)
        have HMZ3 := hide ((unhide HMZ2).below hb)
        clear hb hb0
        generalize Z2.heap.size = G at HGZ3 ⊢
        refine hK _ _ (fun _ => unhide HJ3) ?_
        clear hK K
        simp only [Act.put, List.setIfInBounds_toArray, List.set_cons_zero, List.set_cons_succ]
        refine wpAnyL_one (i := 18) (by kernel_rfl) rfl (by rfl) fun K hK => ?_
        refine wp_call_fn 86 _ _ (by rfl) #[.slice (some ⟨G, 0, none⟩) 2 2] (by with_unfolding_all rfl) entCC (some 26) (by rfl) _ (unhide HCC G Z3 (unhide HGZ3)) ?_
        rintro _ Z4 ⟨rfl, hw⟩
        obtain rfl := hw.symm
        refine hK _ _ (fun _ => unhide HJ3) ?_
        clear hK K
        simp only [Act.put, List.setIfInBounds_toArray, List.set_cons_zero, List.set_cons_succ]
        refine wpAnyL_one (i := 19) (by kernel_rfl) rfl (by rfl) fun K hK => ?_
        refine wp_call_fn 58 _ _ (by rfl) #[.slice none 0 0] (by with_unfolding_all rfl) entSO (some 27) (by rfl) _ (unhide HSO Z3) ?_
        rintro _ Z5 ⟨rfl, hw⟩
        obtain rfl := hw.symm
        refine hK _ _ (fun _ => unhide HJ3) ?_
        clear hK K
        simp only [Act.put, List.setIfInBounds_toArray, List.set_cons_zero, List.set_cons_succ]
        refine wpAnyL_one (i := 20) (by kernel_rfl) rfl (by rfl) fun K hK => ?_
        refine wp_bld (by rfl) _ (by simp only [List.map_toArray, List.map_cons, List.map_nil]; exact unhide HBT Z3) (some 28) (by rfl) ?_
        refine hK _ _ (fun _ => unhide HJ3) ?_
        clear hK K
        simp only [Act.put, List.setIfInBounds_toArray, List.set_cons_zero, List.set_cons_succ]
        refine wpAnyL_one (i := 22) (by kernel_rfl) rfl (by rfl) fun K hK => ?_
        refine wp_store_ty (.tmp 5) (.tmp 28) (by rfl) (by rfl) M k on2 none 0 0 (tjn ta tb) none 0 0 (by rfl) (by rfl) (unhide HTL) (unhide HMZ3) ?_
        intro Z9 HX9 HE9 HS9 HO9
        have HJ9 : Hid (J3 u Z9 N k false fa n fc ta on2 fb fd tb) := (unhide HJ3).set (unhide HMN) (unhide HE9) (unhide HO9)
        refine hK _ _ (fun h => absurd rfl h) ?_
        clear hK K
        refine wpAnyL_done (by kernel_rfl) ?_ _
        go_wp2_with fail
        go_meet
        exact ⟨M, rfl, ⟨unhide HMN, unhide HJ9, unhide HX9⟩⟩
      · refine wp_buildTo (by rfl) _ _ (by simp only [List.map_toArray, List.map_cons, List.map_nil]; exact bsRR Z1) (some 25) (by rfl) ?_
        have hb0 : Below Z1.heap.size Z1 (Z1.alloc (.cells #[.slice none 0 0, .slice none 0 0] 30)) := (Below.refl _ _).alloc (Nat.le_refl _) _
        have HGZ2 := hide (rr_new Z1 30)
        generalize Z1.alloc (.cells #[.slice none 0 0, .slice none 0 0] 30) = Z2 at hb0 HGZ2 ⊢
        have hb := hb0
        have HJ2 := hide ((unhide HJ1).belw hb)
        have HMZ2 := hide ((unhide HMZ1).below hb)
        clear hb hb0
        generalize Z1.heap.size = G at HGZ2 ⊢
        refine hK _ _ (fun _ => unhide HJ2) ?_
        clear hK K
        simp only [Act.put, List.setIfInBounds_toArray, List.set_cons_zero, List.set_cons_succ]
        refine wpAnyL_one (i := 12) (by kernel_rfl) rfl (by rfl) fun K hK => ?_
        refine wp_call_fn 85 _ _ (by rfl) #[.agg (taC ta).toArray, .agg (taC tb).toArray] (by with_unfolding_all rfl) entTJ (some 20) (by rfl) _ (unhide HTJ Z2) ?_
        rintro _ Z3 ⟨rfl, hb⟩
        have HJ3 := hide ((unhide HJ2).belw hb)
        have HGZ3 := hide (rng_keep (unhide HGZ2) hb)
        have HMZ3 := hide ((unhide HMZ2).below hb)
        clear hb
        refine hK _ _ (fun _ => unhide HJ3) ?_
        clear hK K
        simp only [Act.put, List.setIfInBounds_toArray, List.set_cons_zero, List.set_cons_succ]
        refine wpAnyL_one (i := 18) (by kernel_rfl) rfl (by rfl) fun K hK => ?_
        refine wp_call_fn 86 _ _ (by rfl) #[.slice (some ⟨G, 0, none⟩) 2 2] (by with_unfolding_all rfl) entCC (some 26) (by rfl) _ (unhide HCC G Z3 (unhide HGZ3)) ?_
        rintro _ Z4 ⟨rfl, hw⟩
        obtain rfl := hw.symm
        refine hK _ _ (fun _ => unhide HJ3) ?_
        clear hK K
        simp only [Act.put, List.setIfInBounds_toArray, List.set_cons_zero, List.set_cons_succ]
        refine wpAnyL_one (i := 19) (by kernel_rfl) rfl (by rfl) fun K hK => ?_
        refine wp_call_fn 58 _ _ (by rfl) #[.slice none 0 0] (by with_unfolding_all rfl) entSO (some 27) (by rfl) _ (unhide HSO Z3) ?_
        rintro _ Z5 ⟨rfl, hw⟩
        obtain rfl := hw.symm
        refine hK _ _ (fun _ => unhide HJ3) ?_
        clear hK K
        simp only [Act.put, List.setIfInBounds_toArray, List.set_cons_zero, List.set_cons_succ]
        refine wpAnyL_one (i := 20) (by kernel_rfl) rfl (by rfl) fun K hK => ?_
        refine wp_bld (by rfl) _ (by simp only [List.map_toArray, List.map_cons, List.map_nil]; exact unhide HBT Z3) (some 28) (by rfl) ?_
        refine hK _ _ (fun _ => unhide HJ3) ?_
        clear hK K
        simp only [Act.put, List.setIfInBounds_toArray, List.set_cons_zero, List.set_cons_succ]
        refine wpAnyL_one (i := 22) (by kernel_rfl) rfl (by rfl) fun K hK => ?_
        refine wp_store_ty (.tmp 5) (.tmp 28) (by rfl) (by rfl) M k on2 none 0 0 (tjn ta tb) none 0 0 (by rfl) (by rfl) (unhide HTL) (unhide HMZ3) ?_
        intro Z9 HX9 HE9 HS9 HO9
        have HJ9 : Hid (J3 u Z9 N k false fa n fc ta on2 fb fd tb) := (unhide HJ3).set (unhide HMN) (unhide HE9) (unhide HO9)
        refine hK _ _ (fun h => absurd rfl h) ?_
        clear hK K
        refine wpAnyL_done (by kernel_rfl) ?_ _
        go_wp2_with fail
        go_meet
        exact ⟨M, rfl, ⟨unhide HMN, unhide HJ9, unhide HX9⟩⟩
  case rest =>
    obtain ⟨M, rfl, HC⟩ := hcut
    have HI0 : Hid (Jl u wc N M wc.heap.size k false fa n fc ta on2 fb fd tb on2 none 0 0 (tjn ta tb) []) := ⟨(unhide HC).2.1, (unhide HC).2.2, ⟨rfl, .inl ⟨rfl, rfl⟩⟩, (unhide HC).1, (unhide HC).2.2.lt, Nat.le_refl _⟩
    have c2 := (unhide HC).2.1.b0.c2
    clear HC HJ
    generalize wc.heap.size = B at HI0
    go_wp2_with fail
    clear c2
    go_loopw [32] (fun s32 wr => ∃ (i : Nat) (go : Option Addr) (gc : Nat), i ≤ n ∧ s32 = .int .i64 i ∧ Hid (Jl u wr N M B k false fa n fc ta on2 fb fd tb on2 go i gc (tjn ta tb) (List.zipWith grt (la.take i) (lb.take i)))) (fun s32 _ => n - (intOf s32).toNat)
    case atStart => exact ⟨0, none, 0, Nat.zero_le _, rfl, unhide HI0⟩
    case round =>
      obtain ⟨i, go, gc, hi, rfl, HI⟩ := hrel
      have hmx : n ≤ 1000000 := by rw [unhide HNN]; exact unhide HMX
      by_cases hlt : i < n
      · have hki : (i : Int) < (n : Int) := by omega
        have hia : i < la.length := by have := unhide HNN; omega
        have hib : i < lb.length := by have := unhide HN2; omega
        have HBL : Hid (Below u.heap.size u wr) := by rw [← unhide HN]; exact (unhide HI).j3.bl
        obtain ⟨g1, o1, hf1, hr1⟩ := (unhide HLA) (by rw [flC_len]; omega)
        obtain ⟨g2, o2, hf2, hr2⟩ := (unhide HLB) (by rw [flC_len]; omega)
        have cx0 := hr1 i _ (flC_get hia)
        have cy0 := hr2 i _ (flC_get hib)
        have HG2 : Hid (g2 < N) := by rw [unhide HN]; exact World.block_lt_of_cell? u _ cy0
        have cx := ((unhide HBL).cell (p := ⟨g1, o1 + i, none⟩) (World.block_lt_of_cell? u _ cx0)).trans cx0
        have HY := hide (((unhide HBL).cell (p := ⟨g2, o2 + i, none⟩) (World.block_lt_of_cell? u _ cy0)).trans cy0)
        have HTK : Hid (List.zipWith grt (la.take (i + 1)) (lb.take (i + 1)) = List.zipWith grt (la.take i) (lb.take i) ++ [grt la[i] lb[i]]) := by
          rw [List.take_succ_eq_append_getElem hia, List.take_succ_eq_append_getElem hib, List.zipWith_append (by rw [List.length_take, List.length_take]; omega)]
          rfl
        have HGR : Hid (∀ w : World, Calls Try.prog 87 #[.float .f64 la[i], .float .f64 lb[i]] w fun e w' => ∃ v, e = .returned v ∧ (v = .float .f64 (grt la[i] lb[i]) ∧ w' = w)) := fun w => (kGreater _ _ (unhide HAB _ (List.getElem_mem hia)) (unhide HBB _ (List.getElem_mem hib)) w).mono fun e w' hh => ⟨_, hh.1, rfl, hh.2⟩
        have hix1 := ixF g1 o1 n fc i hlt
        have hix2 := ixF g2 o2 n fd i hlt
        have HJM : Hid (i ≤ 1000000) := by show i ≤ 1000000; omega
        clear cx0 cy0 hr1 hr2 HLA HLB
        generalize grt la[i] lb[i] = z at *
        generalize la[i] = x at *
        generalize lb[i] = y at *
        generalize List.zipWith grt (la.take i) (lb.take i) = fl at *
        generalize o1 + i = oj at *
        generalize o2 + i = oi at *
        subst hf1 hf2
        go_wp2_with fail
        refine wp_region_last (fun v => Bt v M k on2 go i gc (tjn ta tb) none 0 0 ∧ Bt v (N + 1) k on2 (some ⟨g2, o2, none⟩) n fd tb none 0 0 ∧ v.cell? ⟨g2, oi, none⟩ = some (.float .f64 y)) 12 hmix ⟨(unhide HI).drew.bt, (unhide HI).drew.j3.b1, unhide HY⟩ fun hS => ?_
        have HQ0 := hide ((unhide HI).drew)
        have HY0 : Hid (wr.drew.cell? ⟨g2, oi, none⟩ = some (.float .f64 y)) := unhide HY
        generalize wr.drew = Z0 at hS HQ0 HY0 ⊢
        refine wpAnyL_take 0 37 (.pointer (some ⟨M, 2, none⟩)) [] rfl rfl (by kernel_rfl) (by kernel_rfl) (by kernel_rfl) (by kernel_rfl) (by kernel_rfl) (fun _ _ _ h => h) (by rfl) (fun _ _ => by go_simp) hS ?_
        simp only [Act.put, List.setIfInBounds_toArray, List.set_cons_zero, List.set_cons_succ]
        refine wpAnyL_take 1 38 (.slice go i gc) [] rfl rfl (by kernel_rfl) (by kernel_rfl) (by kernel_rfl) (by kernel_rfl) (by kernel_rfl) (fun _ _ _ h => h) (by rfl) (fun v hv => by have q2 := hv.1.c2; go_simp) hS ?_
        simp only [Act.put, List.setIfInBounds_toArray, List.set_cons_zero, List.set_cons_succ]
        refine wpAnyL_take 2 39 (.float .f64 x) [] rfl rfl (by kernel_rfl) (by kernel_rfl) (by kernel_rfl) (by kernel_rfl) (by kernel_rfl) (fun _ _ _ h => h) (by rfl) (fun _ _ => by go_simp) hS ?_
        simp only [Act.put, List.setIfInBounds_toArray, List.set_cons_zero, List.set_cons_succ]
        refine wpAnyL_take 3 40 (.pointer (some ⟨N + 1, 2, none⟩)) [] rfl rfl (by kernel_rfl) (by kernel_rfl) (by kernel_rfl) (by kernel_rfl) (by kernel_rfl) (fun _ _ _ h => h) (by rfl) (fun _ _ => by go_simp) hS ?_
        simp only [Act.put, List.setIfInBounds_toArray, List.set_cons_zero, List.set_cons_succ]
        refine wpAnyL_take 4 41 (.slice (some ⟨g2, o2, none⟩) n fd) [] rfl rfl (by kernel_rfl) (by kernel_rfl) (by kernel_rfl) (by kernel_rfl) (by kernel_rfl) (fun _ _ _ h => h) (by rfl) (fun v hv => by have q2 := hv.2.1.c2; go_simp) hS ?_
        simp only [Act.put, List.setIfInBounds_toArray, List.set_cons_zero, List.set_cons_succ]
        refine wpAnyL_take 5 42 (.int .i64 (i : Int)) [] rfl rfl (by kernel_rfl) (by kernel_rfl) (by kernel_rfl) (by kernel_rfl) (by kernel_rfl) (fun _ _ _ h => h) (by rfl) (fun _ _ => by go_simp) hS ?_
        simp only [Act.put, List.setIfInBounds_toArray, List.set_cons_zero, List.set_cons_succ]
        refine wpAnyL_take 6 43 (.pointer (some ⟨g2, oi, none⟩)) [] rfl rfl (by kernel_rfl) (by kernel_rfl) (by kernel_rfl) (by kernel_rfl) (by kernel_rfl) (fun _ _ _ h => h) (by rfl) (fun _ _ => by go_simp) hS ?_
        simp only [Act.put, List.setIfInBounds_toArray, List.set_cons_zero, List.set_cons_succ]
        refine wpAnyL_take 7 44 (.float .f64 y) [] rfl rfl (by kernel_rfl) (by kernel_rfl) (by kernel_rfl) (by kernel_rfl) (by kernel_rfl) (fun _ _ _ h => h) (by rfl) (fun v hv => by have q2 := hv.2.2; go_simp) hS ?_
        simp only [Act.put, List.setIfInBounds_toArray, List.set_cons_zero, List.set_cons_succ]
        refine wpAnyL_one (i := 8) (by kernel_rfl) rfl (by rfl) fun K hK => ?_
        refine wp_call_fn 87 _ _ (by rfl) #[.float .f64 x, .float .f64 y] (by with_unfolding_all rfl) entGr (some 45) (by rfl) _ (unhide HGR Z0) ?_
        rintro _ Z5 ⟨rfl, hw⟩
        obtain rfl := hw.symm
        refine hK _ _ (fun _ => ⟨(unhide HQ0).bt, (unhide HQ0).j3.b1, unhide HY0⟩) ?_
        clear hK K
        simp only [Act.put, List.setIfInBounds_toArray, List.set_cons_zero, List.set_cons_succ]
        refine wpAnyL_one (i := 9) (by kernel_rfl) rfl (by rfl) fun K hK => ?_
        refine wp_buildTo (by rfl) _ _ (by simp only [List.map_toArray, List.map_cons, List.map_nil]; exact bsF Z0 z) (some 46) (by rfl) ?_
        have hb6 : Below Z0.heap.size Z0 (Z0.alloc (.cells #[.float .f64 z] 36)) := (Below.refl _ _).alloc (Nat.le_refl _) _
        have HQ6 := hide ((unhide HQ0).belw hb6)
        have HY6 : Hid ((Z0.alloc (.cells #[.float .f64 z] 36)).cell? ⟨g2, oi, none⟩ = some (.float .f64 y)) := (hb6.cell (p := ⟨g2, oi, none⟩) (World.block_lt_of_cell? Z0 _ (unhide HY0))).trans (unhide HY0)
        have HC6 := hide (one_cell Z0 (.float .f64 z) 36)
        clear hb6
        generalize Z0.alloc (.cells #[.float .f64 z] 36) = Z6 at HQ6 HC6 HY6 ⊢
        generalize Z0.heap.size = G6 at HC6 ⊢
        refine hK _ _ (fun _ => ⟨(unhide HQ6).bt, (unhide HQ6).j3.b1, unhide HY6⟩) ?_
        clear hK K
        simp only [Act.put, List.setIfInBounds_toArray, List.set_cons_zero, List.set_cons_succ]
        refine wpAnyL_one (i := 10) (by kernel_rfl) rfl (by rfl) fun K hK => ?_
        refine wp_putV elF (.tmp 38) (.tmp 46) (by rfl) (some 47) (by rfl) B (flC fl) (.float .f64 z) go i gc G6 0 1 (by rfl) (by rfl) (unhide HQ6).own (unhide HC6) rfl (by have := unhide HJM; omega) (by unfold maxLen; have := unhide HJM; omega) (unhide HQ6).h3 ?_
        intro go' j' gc' Z7 HN7 HO7 _ HB7
        have HBT7 := hide ((unhide HQ6).bt.same ((unhide HB7).block M (unhide HQ6).h2))
        have HB17 := hide ((unhide HQ6).j3.b1.same ((unhide HB7).block (N + 1) (by have h1 := (unhide HQ6).h1; have h2 := (unhide HQ6).h2; omega)))
        have HY7 : Hid (Z7.cell? ⟨g2, oi, none⟩ = some (.float .f64 y)) := by rw [World.cell?_of_block (w := Z6) (a := ⟨g2, oi, none⟩) ((unhide HB7).block g2 (by have := unhide HG2; have h1 := (unhide HQ6).h1; have h2 := (unhide HQ6).h2; omega))]; exact unhide HY6
        refine hK _ _ (fun _ => ⟨unhide HBT7, unhide HB17, unhide HY7⟩) ?_
        clear hK K
        simp only [Act.put, List.setIfInBounds_toArray, List.set_cons_zero, List.set_cons_succ]
        refine wpAnyL_one (i := 11) (by kernel_rfl) rfl (by rfl) fun K hK => ?_
        refine wp_val (.pointer (some ⟨M, 2, none⟩)) (by go_simp) (some 48) (by rfl) ?_
        refine hK _ _ (fun _ => ⟨unhide HBT7, unhide HB17, unhide HY7⟩) ?_
        clear hK K
        simp only [Act.put, List.setIfInBounds_toArray, List.set_cons_zero, List.set_cons_succ]
        refine wpAnyL_one (i := 12) (by kernel_rfl) rfl (by rfl) fun K hK => ?_
        refine wp_store_sl 28 (.tmp 48) (.tmp 47) (by rfl) (by rfl) M 2 go' j' gc' (by rfl) (by rfl) ((unhide HBT7).there (by decide)) infoF ?_
        have HQ8 : Hid (Jl u (Z7.setCell ⟨M, 2, none⟩ (.slice go' j' gc')) N M B k false (some ⟨g1, o1, none⟩) n fc ta on2 (some ⟨g2, o2, none⟩) fd tb on2 go' j' gc' (tjn ta tb) (fl ++ [z])) := (unhide HQ6).grow (unhide HB7) (by have := unhide HO7; rw [show flC fl ++ [Value.float .f64 z] = flC (fl ++ [z]) by simp [flC]] at this; exact this)
        generalize Z7.setCell ⟨M, 2, none⟩ (.slice go' j' gc') = Z8 at HQ8 ⊢
        refine hK _ _ (fun h => absurd rfl h) ?_
        clear hK K
        refine wpAnyL_done (by kernel_rfl) ?_ _
        go_wp2
        go_roundw
        case rel => exact ⟨i + 1, go', gc', by omega, by go_num, by rw [unhide HTK, ← unhide HN7]; exact unhide HQ8⟩
        case measure => simp [intOf]; omega
      · obtain rfl : i = n := by omega
        have hki : ¬ (i : Int) < (i : Int) := by omega
        have HF : Hid (List.zipWith grt (la.take i) (lb.take i) = List.zipWith grt la lb) := by
          show _ = _
          rw [List.take_of_length_le (by rw [unhide HNN]; exact Nat.le_refl _), List.take_of_length_le (by rw [unhide HN2, unhide HNN]; exact Nat.le_refl _)]
        rw [unhide HF] at HI
        go_wp2_with (first
          | ((with_reducible refine wpList_load_ty (by rfl) (.tmp 5) (by rfl) (some 50) (by rfl) M (by with_unfolding_all rfl) (unhide HI).bt ?_); simp only [Act.put, List.setIfInBounds_toArray, List.set_cons_zero, List.set_cons_succ])
          | ((with_reducible refine wpList_store_ty (by rfl) (.tmp 4) (.tmp 50) (by rfl) (N + 1 + 1) k on2 go i gc (tjn ta tb) none 0 0 (by with_unfolding_all rfl) (by with_unfolding_all rfl) (unhide HTL) (unhide HI).j3.b2 ?_); intro Z9 HX9 HE9 HS9 HO9; simp only [Act.put])
          | fail)
        refine bodyPost_ret (results_ty rfl _ _ (N + 1 + 1) k on2 go i gc (tjn ta tb) none 0 0 rfl (unhide HX9)) rfl ?_
        refine ⟨go, gc, i, rfl, unhide HNN, own_keep (own_down (unhide HI).own (by have h1 := (unhide HI).h1; have h2 := (unhide HI).h2; omega)) fun g hg => unhide HO9 g ?_, unhide HE9 _ _ (by omega) (unhide HI).j3.bl⟩
        have h0 := World.ownsRow.lt (unhide HI).own g hg
        have h1 := (unhide HI).h1
        have h2 := (unhide HI).h2
        omega
set_option maxRecDepth 100000 in
set_option maxHeartbeats 16000000 in
theorem tJoin_true (k : Nat) (la lb ta tb : List Nat) (on2 : Bool) (hl : ta.length = 10) (hl2 : tb.length = 10) (hn2 : lb.length = la.length) (hmx : la.length ≤ 1000000) (ha : ∀ b ∈ la, b < 18446744073709551616) (hb : ∀ b ∈ lb, b < 18446744073709551616) (fa : Option Addr) (fc : Nat) (fb : Option Addr) (fd n : Nat) (hn : n = la.length) (u : World) (h : Lies u fa (flC la)) (h2 : Lies u fb (flC lb)) :
    Calls Try.prog 63 #[tyV k true fa n fc ta none 0 0, tyV k on2 fb n fd tb none 0 0] u fun e u' => ∃ go gc j, e = .returned (tyV k true go j gc (tjn ta tb) none 0 0) ∧ j = la.length ∧ u'.ownsRow u.heap.size 36 1 (.slice go j gc) j (flC (List.zipWith grt la lb)) ∧ Below u.heap.size u u' := by
  have hmix : Try.prog.follows .mixedOrders = true := by kernel_rfl
  have HL := hide hl
  have HL2 := hide hl2
  have HTL : Hid ((tjn ta tb).length = 10) := tjn_len hl hl2
  have HTJ : Hid (∀ w : World, Calls Try.prog 85 #[.agg (taC ta).toArray, .agg (taC tb).toArray] w fun e w' => ∃ v, e = .returned v ∧ (v = .agg (taC (tjn ta tb)).toArray ∧ Below w.heap.size w w')) := fun w => (lTalJoin ta tb hl hl2 w).mono fun e w' hh => ⟨_, hh.1, rfl, hh.2⟩
  have HCC : Hid (∀ (g : Nat) (w : World), w.rangeAt g 0 [.slice none 0 0, .slice none 0 0] → Calls Try.prog 86 #[.slice (some ⟨g, 0, none⟩) 2 2] w fun e w' => ∃ v, e = .returned v ∧ (v = .slice none 0 0 ∧ w' = w)) := fun g w hh => (zConcat g w hh).mono fun e w' hh => ⟨_, hh.1, rfl, hh.2⟩
  have HSO : Hid (∀ w : World, Calls Try.prog 58 #[.slice none 0 0] w fun e w' => ∃ v, e = .returned v ∧ (v = .slice none 0 0 ∧ w' = w)) := fun w => (zSet w).mono fun e w' hh => ⟨_, hh.1, rfl, hh.2⟩
  have HBT : Hid (∀ W : World, (Instr.build 77 #[(0, .int .u8 (k : Int)), (1, .bool true), (3, .agg (taC (tjn ta tb)).toArray), (4, .slice none 0 0)]).run Try.prog W = .ok (tyV k true none 0 0 (tjn ta tb) none 0 0) W) := fun W => bTyJ k true (unhide HTL) W
  have HN2 := hide hn2
  have HMX := hide hmx
  have HAB := hide ha
  have HBB := hide hb
  have HNN := hide hn
  have HLA := hide h
  have HLB := hide h2
  clear h h2 hn hn2 hmx ha hb hl hl2
  obtain ⟨N, hN⟩ : ∃ N, N = u.heap.size := ⟨_, rfl⟩
  have HN := hide hN
  rw [← hN]
  clear hN
  go_enter Try.func63, Try.ntmps63
  go_upto_region 1 with (first
    | ((with_reducible refine wpList_box_ty (by rfl) (.tmp 0) (by rfl) (some 2) (by rfl) N (unhide HN) k true fa n fc ta none 0 0 (by with_unfolding_all rfl) (unhide HL) ?_); intro W1 HX1 HB1 HS1; simp only [Act.put, List.setIfInBounds_toArray, List.set_cons_zero, List.set_cons_succ])
    | ((with_reducible refine wpList_box_ty (by rfl) (.tmp 1) (by rfl) (some 3) (by rfl) (N + 1) (unhide HS1).symm k on2 fb n fd tb none 0 0 (by with_unfolding_all rfl) (unhide HL2) ?_); intro W2 HX2 HB2 HS2; simp only [Act.put, List.setIfInBounds_toArray, List.set_cons_zero, List.set_cons_succ])
    | ((with_reducible refine wpList_alloc_ty (by rfl) (by rfl) (some 4) (by rfl) (N + 1 + 1) (unhide HS2).symm ?_); intro W0 HX3 HB3 HS3; simp only [Act.put, List.setIfInBounds_toArray, List.set_cons_zero, List.set_cons_succ])
    | fail)
  have HJ : Hid (J3 u W0 N k true fa n fc ta on2 fb fd tb) := ⟨((unhide HX1).same ((unhide HB2).block N (by omega))).same ((unhide HB3).block N (by omega)), (unhide HX2).same ((unhide HB3).block (N + 1) (by omega)), unhide HX3, (unhide HB1).trans (((unhide HB2).mono (by omega)).trans ((unhide HB3).mono (by omega)))⟩
  clear HX1 HB1 HS1 HX2 HB2 HS2 HX3 HB3 HS3
  go_cut [5] (fun s5 wx => ∃ M, s5 = .pointer (some ⟨M, 0, none⟩) ∧ Hid (N + 1 + 1 < M ∧ J3 u wx N k true fa n fc ta on2 fb fd tb ∧ Bt wx M k true none 0 0 (tjn ta tb) none 0 0))
  case first =>
    refine wp_region_last (fun v => J3 u v N k true fa n fc ta on2 fb fd tb) 22 hmix (unhide HJ).drew fun hS => ?_
    have HJ0 : Hid (J3 u W0.drew N k true fa n fc ta on2 fb fd tb) := (unhide HJ).drew
    generalize W0.drew = Z0 at hS HJ0 ⊢
    refine wpAnyL_take 0 8 (.pointer (some ⟨N, 0, none⟩)) [] rfl rfl (by kernel_rfl) (by kernel_rfl) (by kernel_rfl) (by kernel_rfl) (by kernel_rfl) (fun _ _ _ h => h) (by rfl) (fun _ _ => by go_simp) hS ?_
    simp only [Act.put, List.setIfInBounds_toArray, List.set_cons_zero, List.set_cons_succ]
    refine wpAnyL_take 1 9 (.int .u8 (k : Int)) [] rfl rfl (by kernel_rfl) (by kernel_rfl) (by kernel_rfl) (by kernel_rfl) (by kernel_rfl) (fun _ _ _ h => h) (by rfl) (fun v hv => by have q2 := hv.b0.c0; go_simp) hS ?_
    simp only [Act.put, List.setIfInBounds_toArray, List.set_cons_zero, List.set_cons_succ]
    refine wpAnyL_take 2 10 (.pointer (some ⟨N, 1, none⟩)) [] rfl rfl (by kernel_rfl) (by kernel_rfl) (by kernel_rfl) (by kernel_rfl) (by kernel_rfl) (fun _ _ _ h => h) (by rfl) (fun _ _ => by go_simp) hS ?_
    simp only [Act.put, List.setIfInBounds_toArray, List.set_cons_zero, List.set_cons_succ]
    refine wpAnyL_take 3 11 (.bool true) [] rfl rfl (by kernel_rfl) (by kernel_rfl) (by kernel_rfl) (by kernel_rfl) (by kernel_rfl) (fun _ _ _ h => h) (by rfl) (fun v hv => by have q2 := hv.b0.c1; go_simp) hS ?_
    simp only [Act.put, List.setIfInBounds_toArray, List.set_cons_zero, List.set_cons_succ]
    refine wpAnyL_take 4 12 (.bool true) [] rfl rfl (by kernel_rfl) (by kernel_rfl) (by kernel_rfl) (by kernel_rfl) (by kernel_rfl) (fun _ _ _ h => h) (by rfl) (fun _ _ => by go_simp) hS ?_
    simp only [Act.put, List.setIfInBounds_toArray, List.set_cons_zero, List.set_cons_succ]
    refine wpAnyL_take 8 16 (.pointer (some ⟨N, 3, none⟩)) [] rfl rfl (by kernel_rfl) (by kernel_rfl) (by kernel_rfl) (by kernel_rfl) (by kernel_rfl) (fun _ _ _ h => h) (by rfl) (fun _ _ => by go_simp) hS ?_
    simp only [Act.put, List.setIfInBounds_toArray, List.set_cons_zero, List.set_cons_succ]
    refine wpAnyL_take 9 17 (.agg (taC ta).toArray) [] rfl rfl (by kernel_rfl) (by kernel_rfl) (by kernel_rfl) (by kernel_rfl) (by kernel_rfl) (fun _ _ _ h => h) (by rfl) (fun v hv => ld_ta (by rfl) (by rfl) hv.b0) hS ?_
    simp only [Act.put, List.setIfInBounds_toArray, List.set_cons_zero, List.set_cons_succ]
    refine wpAnyL_take 10 18 (.pointer (some ⟨N + 1, 3, none⟩)) [] rfl rfl (by kernel_rfl) (by kernel_rfl) (by kernel_rfl) (by kernel_rfl) (by kernel_rfl) (fun _ _ _ h => h) (by rfl) (fun _ _ => by go_simp) hS ?_
    simp only [Act.put, List.setIfInBounds_toArray, List.set_cons_zero, List.set_cons_succ]
    refine wpAnyL_take 11 19 (.agg (taC tb).toArray) [] rfl rfl (by kernel_rfl) (by kernel_rfl) (by kernel_rfl) (by kernel_rfl) (by kernel_rfl) (fun _ _ _ h => h) (by rfl) (fun v hv => ld_ta (by rfl) (by rfl) hv.b1) hS ?_
    simp only [Act.put, List.setIfInBounds_toArray, List.set_cons_zero, List.set_cons_succ]
    refine wpAnyL_take 13 21 (.pointer (some ⟨N, 13, none⟩)) [] rfl rfl (by kernel_rfl) (by kernel_rfl) (by kernel_rfl) (by kernel_rfl) (by kernel_rfl) (fun _ _ _ h => h) (by rfl) (fun _ _ => by go_simp) hS ?_
    simp only [Act.put, List.setIfInBounds_toArray, List.set_cons_zero, List.set_cons_succ]
    refine wpAnyL_take 14 22 (.slice none 0 0) [] rfl rfl (by kernel_rfl) (by kernel_rfl) (by kernel_rfl) (by kernel_rfl) (by kernel_rfl) (fun _ _ _ h => h) (by rfl) (fun v hv => by have q2 := hv.b0.c13; go_simp) hS ?_
    simp only [Act.put, List.setIfInBounds_toArray, List.set_cons_zero, List.set_cons_succ]
    refine wpAnyL_take 15 23 (.pointer (some ⟨N + 1, 13, none⟩)) [] rfl rfl (by kernel_rfl) (by kernel_rfl) (by kernel_rfl) (by kernel_rfl) (by kernel_rfl) (fun _ _ _ h => h) (by rfl) (fun _ _ => by go_simp) hS ?_
    simp only [Act.put, List.setIfInBounds_toArray, List.set_cons_zero, List.set_cons_succ]
    refine wpAnyL_take 16 24 (.slice none 0 0) [] rfl rfl (by kernel_rfl) (by kernel_rfl) (by kernel_rfl) (by kernel_rfl) (by kernel_rfl) (fun _ _ _ h => h) (by rfl) (fun v hv => by have q2 := hv.b1.c13; go_simp) hS ?_
    simp only [Act.put, List.setIfInBounds_toArray, List.set_cons_zero, List.set_cons_succ]
    refine wpAnyL_skip 5 13 [] rfl rfl (by kernel_rfl) (by kernel_rfl) (by kernel_rfl) (by kernel_rfl) (by kernel_rfl) (fun _ _ _ h => h) (by rfl) hS ?_
    simp only [Act.put, List.setIfInBounds_toArray, List.set_cons_zero, List.set_cons_succ]
    refine wpAnyL_skip 6 14 [] rfl rfl (by kernel_rfl) (by kernel_rfl) (by kernel_rfl) (by kernel_rfl) (by kernel_rfl) (fun _ _ _ h => h) (by rfl) hS ?_
    simp only [Act.put, List.setIfInBounds_toArray, List.set_cons_zero, List.set_cons_succ]
    refine wpAnyL_take 7 15 (.bool true) [] rfl rfl (by kernel_rfl) (by kernel_rfl) (by kernel_rfl) (by kernel_rfl) (by kernel_rfl) (fun _ _ _ h => h) (by rfl) (fun _ _ => by go_simp) hS ?_
    simp only [Act.put, List.setIfInBounds_toArray, List.set_cons_zero, List.set_cons_succ]
    refine wpAnyL_three (i := 12) (j := 17) (l := 21) (by kernel_rfl) rfl rfl rfl (by rfl) (by rfl) (by rfl) (fun K hK => ?_) (fun K hK => ?_) (fun K hK => ?_) 
    · refine wp_call_fn 85 _ _ (by rfl) #[.agg (taC ta).toArray, .agg (taC tb).toArray] (by with_unfolding_all rfl) entTJ (some 20) (by rfl) _ (unhide HTJ Z0) ?_
      rintro _ Z1 ⟨rfl, hb⟩
      have HJ1 := hide ((unhide HJ0).belw hb)
      clear hb
      refine hK _ _ (fun _ => unhide HJ1) ?_
      clear hK K
      simp only [Act.put, List.setIfInBounds_toArray, List.set_cons_zero, List.set_cons_succ]
      refine wpAnyL_two (i := 17) (j := 21) (by kernel_rfl) rfl rfl (by rfl) (by rfl) (fun K hK => ?_) (fun K hK => ?_) 
      · refine wp_buildTo (by rfl) _ _ (by simp only [List.map_toArray, List.map_cons, List.map_nil]; exact bsRR Z1) (some 25) (by rfl) ?_
        have hb0 : Below Z1.heap.size Z1 (Z1.alloc (.cells #[.slice none 0 0, .slice none 0 0] 30)) := (Below.refl _ _).alloc (Nat.le_refl _) _
        have HGZ2 := hide (rr_new Z1 30)
        generalize Z1.alloc (.cells #[.slice none 0 0, .slice none 0 0] 30) = Z2 at hb0 HGZ2 ⊢
        have hb := hb0
        have HJ2 := hide ((unhide HJ1).belw hb)
        clear hb hb0
        generalize Z1.heap.size = G at HGZ2 ⊢
        refine hK _ _ (fun _ => unhide HJ2) ?_
        clear hK K
        simp only [Act.put, List.setIfInBounds_toArray, List.set_cons_zero, List.set_cons_succ]
        refine wpAnyL_two (i := 18) (j := 21) (by kernel_rfl) rfl rfl (by rfl) (by rfl) (fun K hK => ?_) (fun K hK => ?_) 
        · refine wp_call_fn 86 _ _ (by rfl) #[.slice (some ⟨G, 0, none⟩) 2 2] (by with_unfolding_all rfl) entCC (some 26) (by rfl) _ (unhide HCC G Z2 (unhide HGZ2)) ?_
          rintro _ Z3 ⟨rfl, hw⟩
          obtain rfl := hw.symm
          refine hK _ _ (fun _ => unhide HJ2) ?_
          clear hK K
          simp only [Act.put, List.setIfInBounds_toArray, List.set_cons_zero, List.set_cons_succ]
          refine wpAnyL_two (i := 19) (j := 21) (by kernel_rfl) rfl rfl (by rfl) (by rfl) (fun K hK => ?_) (fun K hK => ?_) 
          · refine wp_call_fn 58 _ _ (by rfl) #[.slice none 0 0] (by with_unfolding_all rfl) entSO (some 27) (by rfl) _ (unhide HSO Z2) ?_
            rintro _ Z4 ⟨rfl, hw⟩
            obtain rfl := hw.symm
            refine hK _ _ (fun _ => unhide HJ2) ?_
            clear hK K
            simp only [Act.put, List.setIfInBounds_toArray, List.set_cons_zero, List.set_cons_succ]
            refine wpAnyL_two (i := 20) (j := 21) (by kernel_rfl) rfl rfl (by rfl) (by rfl) (fun K hK => ?_) (fun K hK => ?_) 
            · refine wp_bld (by rfl) _ (by simp only [List.map_toArray, List.map_cons, List.map_nil]; exact unhide HBT Z2) (some 28) (by rfl) ?_
              refine hK _ _ (fun _ => unhide HJ2) ?_
              clear hK K
              simp only [Act.put, List.setIfInBounds_toArray, List.set_cons_zero, List.set_cons_succ]
              refine wpAnyL_one (i := 21) (by kernel_rfl) rfl (by rfl) fun K hK => ?_
              refine wp_alloc_ty (by rfl) (some 5) (by rfl) ?_
              intro Z6 HMZ6 hb
              have HMN : Hid (N + 1 + 1 < Z2.heap.size) := (unhide HJ2).b2.lt
              have hb := unhide hb
              have HJ6 := hide ((unhide HJ2).belw hb)
              have HGZ6 := hide (rng_keep (unhide HGZ2) hb)
              clear hb
              generalize Z2.heap.size = M at HMZ6 HMN ⊢
              refine hK _ _ (fun _ => unhide HJ6) ?_
              clear hK K
              simp only [Act.put, List.setIfInBounds_toArray, List.set_cons_zero, List.set_cons_succ]
              refine wpAnyL_one (i := 22) (by kernel_rfl) rfl (by rfl) fun K hK => ?_
              refine wp_store_ty (.tmp 5) (.tmp 28) (by rfl) (by rfl) M k true none 0 0 (tjn ta tb) none 0 0 (by rfl) (by rfl) (unhide HTL) (unhide HMZ6) ?_
              intro Z9 HX9 HE9 HS9 HO9
              have HJ9 : Hid (J3 u Z9 N k true fa n fc ta on2 fb fd tb) := (unhide HJ6).set (unhide HMN) (unhide HE9) (unhide HO9)
              refine hK _ _ (fun h => absurd rfl h) ?_
              clear hK K
              refine wpAnyL_done (by kernel_rfl) ?_ _
              go_wp2_with fail
              go_meet
              exact ⟨M, rfl, ⟨unhide HMN, unhide HJ9, unhide HX9⟩⟩
            · refine wp_alloc_ty (by rfl) (some 5) (by rfl) ?_
              intro Z5 HMZ5 hb
              have HMN : Hid (N + 1 + 1 < Z2.heap.size) := (unhide HJ2).b2.lt
              have hb := unhide hb
              have HJ5 := hide ((unhide HJ2).belw hb)
              have HGZ5 := hide (rng_keep (unhide HGZ2) hb)
              clear hb
              generalize Z2.heap.size = M at HMZ5 HMN ⊢
              refine hK _ _ (fun _ => unhide HJ5) ?_
              clear hK K
              simp only [Act.put, List.setIfInBounds_toArray, List.set_cons_zero, List.set_cons_succ]
              refine wpAnyL_one (i := 20) (by kernel_rfl) rfl (by rfl) fun K hK => ?_
              refine wp_bld (by rfl) _ (by simp only [List.map_toArray, List.map_cons, List.map_nil]; exact unhide HBT Z5) (some 28) (by rfl) ?_
              refine hK _ _ (fun _ => unhide HJ5) ?_
              clear hK K
              simp only [Act.put, List.setIfInBounds_toArray, List.set_cons_zero, List.set_cons_succ]
              refine wpAnyL_one (i := 22) (by kernel_rfl) rfl (by rfl) fun K hK => ?_
              refine wp_store_ty (.tmp 5) (.tmp 28) (by rfl) (by rfl) M k true none 0 0 (tjn ta tb) none 0 0 (by rfl) (by rfl) (unhide HTL) (unhide HMZ5) ?_
              intro Z9 HX9 HE9 HS9 HO9
              have HJ9 : Hid (J3 u Z9 N k true fa n fc ta on2 fb fd tb) := (unhide HJ5).set (unhide HMN) (unhide HE9) (unhide HO9)
              refine hK _ _ (fun h => absurd rfl h) ?_
              clear hK K
              refine wpAnyL_done (by kernel_rfl) ?_ _
              go_wp2_with fail
              go_meet
              exact ⟨M, rfl, ⟨unhide HMN, unhide HJ9, unhide HX9⟩⟩
          · refine wp_alloc_ty (by rfl) (some 5) (by rfl) ?_
            intro Z4 HMZ4 hb
            have HMN : Hid (N + 1 + 1 < Z2.heap.size) := (unhide HJ2).b2.lt
            have hb := unhide hb
            have HJ4 := hide ((unhide HJ2).belw hb)
            have HGZ4 := hide (rng_keep (unhide HGZ2) hb)
            clear hb
            generalize Z2.heap.size = M at HMZ4 HMN ⊢
            refine hK _ _ (fun _ => unhide HJ4) ?_
            clear hK K
            simp only [Act.put, List.setIfInBounds_toArray, List.set_cons_zero, List.set_cons_succ]
            refine wpAnyL_one (i := 19) (by kernel_rfl) rfl (by rfl) fun K hK => ?_
            refine wp_call_fn 58 _ _ (by rfl) #[.slice none 0 0] (by with_unfolding_all rfl) entSO (some 27) (by rfl) _ (unhide HSO Z4) ?_
            rintro _ Z5 ⟨rfl, hw⟩
            obtain rfl := hw.symm
            refine hK _ _ (fun _ => unhide HJ4) ?_
            clear hK K
            simp only [Act.put, List.setIfInBounds_toArray, List.set_cons_zero, List.set_cons_succ]
            refine wpAnyL_one (i := 20) (by kernel_rfl) rfl (by rfl) fun K hK => ?_
            refine wp_bld (by rfl) _ (by simp only [List.map_toArray, List.map_cons, List.map_nil]; exact unhide HBT Z4) (some 28) (by rfl) ?_
            refine hK _ _ (fun _ => unhide HJ4) ?_
            clear hK K
            simp only [Act.put, List.setIfInBounds_toArray, List.set_cons_zero, List.set_cons_succ]
            refine wpAnyL_one (i := 22) (by kernel_rfl) rfl (by rfl) fun K hK => ?_
            refine wp_store_ty (.tmp 5) (.tmp 28) (by rfl) (by rfl) M k true none 0 0 (tjn ta tb) none 0 0 (by rfl) (by rfl) (unhide HTL) (unhide HMZ4) ?_
            intro Z9 HX9 HE9 HS9 HO9
            have HJ9 : Hid (J3 u Z9 N k true fa n fc ta on2 fb fd tb) := (unhide HJ4).set (unhide HMN) (unhide HE9) (unhide HO9)
            refine hK _ _ (fun h => absurd rfl h) ?_
            clear hK K
            refine wpAnyL_done (by kernel_rfl) ?_ _
            go_wp2_with fail
            go_meet
            exact ⟨M, rfl, ⟨unhide HMN, unhide HJ9, unhide HX9⟩⟩
        · refine wp_alloc_ty (by rfl) (some 5) (by rfl) ?_
          intro Z3 HMZ3 hb
          have HMN : Hid (N + 1 + 1 < Z2.heap.size) := (unhide HJ2).b2.lt
          have hb := unhide hb
          have HJ3 := hide ((unhide HJ2).belw hb)
          have HGZ3 := hide (rng_keep (unhide HGZ2) hb)
          clear hb
          generalize Z2.heap.size = M at HMZ3 HMN ⊢
          refine hK _ _ (fun _ => unhide HJ3) ?_
          clear hK K
          simp only [Act.put, List.setIfInBounds_toArray, List.set_cons_zero, List.set_cons_succ]
          refine wpAnyL_one (i := 18) (by kernel_rfl) rfl (by rfl) fun K hK => ?_
          refine wp_call_fn 86 _ _ (by rfl) #[.slice (some ⟨G, 0, none⟩) 2 2] (by with_unfolding_all rfl) entCC (some 26) (by rfl) _ (unhide HCC G Z3 (unhide HGZ3)) ?_
          rintro _ Z4 ⟨rfl, hw⟩
          obtain rfl := hw.symm
          refine hK _ _ (fun _ => unhide HJ3) ?_
          clear hK K
          simp only [Act.put, List.setIfInBounds_toArray, List.set_cons_zero, List.set_cons_succ]
          refine wpAnyL_one (i := 19) (by kernel_rfl) rfl (by rfl) fun K hK => ?_
          refine wp_call_fn 58 _ _ (by rfl) #[.slice none 0 0] (by with_unfolding_all rfl) entSO (some 27) (by rfl) _ (unhide HSO Z3) ?_
          rintro _ Z5 ⟨rfl, hw⟩
          obtain rfl := hw.symm
          refine hK _ _ (fun _ => unhide HJ3) ?_
          clear hK K
          simp only [Act.put, List.setIfInBounds_toArray, List.set_cons_zero, List.set_cons_succ]
          refine wpAnyL_one (i := 20) (by kernel_rfl) rfl (by rfl) fun K hK => ?_
          refine wp_bld (by rfl) _ (by simp only [List.map_toArray, List.map_cons, List.map_nil]; exact unhide HBT Z3) (some 28) (by rfl) ?_
          refine hK _ _ (fun _ => unhide HJ3) ?_
          clear hK K
          simp only [Act.put, List.setIfInBounds_toArray, List.set_cons_zero, List.set_cons_succ]
          refine wpAnyL_one (i := 22) (by kernel_rfl) rfl (by rfl) fun K hK => ?_
          refine wp_store_ty (.tmp 5) (.tmp 28) (by rfl) (by rfl) M k true none 0 0 (tjn ta tb) none 0 0 (by rfl) (by rfl) (unhide HTL) (unhide HMZ3) ?_
          intro Z9 HX9 HE9 HS9 HO9
          have HJ9 : Hid (J3 u Z9 N k true fa n fc ta on2 fb fd tb) := (unhide HJ3).set (unhide HMN) (unhide HE9) (unhide HO9)
          refine hK _ _ (fun h => absurd rfl h) ?_
          clear hK K
          refine wpAnyL_done (by kernel_rfl) ?_ _
          go_wp2_with fail
          go_meet
          exact ⟨M, rfl, ⟨unhide HMN, unhide HJ9, unhide HX9⟩⟩
      · refine wp_alloc_ty (by rfl) (some 5) (by rfl) ?_
        intro Z2 HMZ2 hb
        have HMN : Hid (N + 1 + 1 < Z1.heap.size) := (unhide HJ1).b2.lt
        have hb := unhide hb
        have HJ2 := hide ((unhide HJ1).belw hb)
        clear hb
        generalize Z1.heap.size = M at HMZ2 HMN ⊢
        refine hK _ _ (fun _ => unhide HJ2) ?_
        clear hK K
        simp only [Act.put, List.setIfInBounds_toArray, List.set_cons_zero, List.set_cons_succ]
        refine wpAnyL_one (i := 17) (by kernel_rfl) rfl (by rfl) fun K hK => ?_
        refine wp_buildTo (by rfl) _ _ (by simp only [List.map_toArray, List.map_cons, List.map_nil]; exact bsRR Z2) (some 25) (by rfl) ?_
        have hb0 : Below Z2.heap.size Z2 (Z2.alloc (.cells #[.slice none 0 0, .slice none 0 0] 30)) := (Below.refl _ _).alloc (Nat.le_refl _) _
        have HGZ3 := hide (rr_new Z2 30)
        generalize Z2.alloc (.cells #[.slice none 0 0, .slice none 0 0] 30) = Z3 at hb0 HGZ3 ⊢
        have hb := hb0
        have HJ3 := hide ((unhide HJ2).belw hb)
        have HMZ3 := hide ((unhide HMZ2).below hb)
        clear hb hb0
        generalize Z2.heap.size = G at HGZ3 ⊢
        refine hK _ _ (fun _ => unhide HJ3) ?_
        clear hK K
        simp only [Act.put, List.setIfInBounds_toArray, List.set_cons_zero, List.set_cons_succ]
        refine wpAnyL_one (i := 18) (by kernel_rfl) rfl (by rfl) fun K hK => ?_
        refine wp_call_fn 86 _ _ (by rfl) #[.slice (some ⟨G, 0, none⟩) 2 2] (by with_unfolding_all rfl) entCC (some 26) (by rfl) _ (unhide HCC G Z3 (unhide HGZ3)) ?_
        rintro _ Z4 ⟨rfl, hw⟩
        obtain rfl := hw.symm
        refine hK _ _ (fun _ => unhide HJ3) ?_
        clear hK K
        simp only [Act.put, List.setIfInBounds_toArray, List.set_cons_zero, List.set_cons_succ]
        refine wpAnyL_one (i := 19) (by kernel_rfl) rfl (by rfl) fun K hK => ?_
        refine wp_call_fn 58 _ _ (by rfl) #[.slice none 0 0] (by with_unfolding_all rfl) entSO (some 27) (by rfl) _ (unhide HSO Z3) ?_
        rintro _ Z5 ⟨rfl, hw⟩
        obtain rfl := hw.symm
        refine hK _ _ (fun _ => unhide HJ3) ?_
        clear hK K
        simp only [Act.put, List.setIfInBounds_toArray, List.set_cons_zero, List.set_cons_succ]
        refine wpAnyL_one (i := 20) (by kernel_rfl) rfl (by rfl) fun K hK => ?_
        refine wp_bld (by rfl) _ (by simp only [List.map_toArray, List.map_cons, List.map_nil]; exact unhide HBT Z3) (some 28) (by rfl) ?_
        refine hK _ _ (fun _ => unhide HJ3) ?_
        clear hK K
        simp only [Act.put, List.setIfInBounds_toArray, List.set_cons_zero, List.set_cons_succ]
        refine wpAnyL_one (i := 22) (by kernel_rfl) rfl (by rfl) fun K hK => ?_
        refine wp_store_ty (.tmp 5) (.tmp 28) (by rfl) (by rfl) M k true none 0 0 (tjn ta tb) none 0 0 (by rfl) (by rfl) (unhide HTL) (unhide HMZ3) ?_
        intro Z9 HX9 HE9 HS9 HO9
        have HJ9 : Hid (J3 u Z9 N k true fa n fc ta on2 fb fd tb) := (unhide HJ3).set (unhide HMN) (unhide HE9) (unhide HO9)
        refine hK _ _ (fun h => absurd rfl h) ?_
        clear hK K
        refine wpAnyL_done (by kernel_rfl) ?_ _
        go_wp2_with fail
        go_meet
        exact ⟨M, rfl, ⟨unhide HMN, unhide HJ9, unhide HX9⟩⟩
    · refine wp_buildTo (by rfl) _ _ (by simp only [List.map_toArray, List.map_cons, List.map_nil]; exact bsRR Z0) (some 25) (by rfl) ?_
      have hb0 : Below Z0.heap.size Z0 (Z0.alloc (.cells #[.slice none 0 0, .slice none 0 0] 30)) := (Below.refl _ _).alloc (Nat.le_refl _) _
      have HGZ1 := hide (rr_new Z0 30)
      generalize Z0.alloc (.cells #[.slice none 0 0, .slice none 0 0] 30) = Z1 at hb0 HGZ1 ⊢
      have hb := hb0
      have HJ1 := hide ((unhide HJ0).belw hb)
      clear hb hb0
      generalize Z0.heap.size = G at HGZ1 ⊢
      refine hK _ _ (fun _ => unhide HJ1) ?_
      clear hK K
      simp only [Act.put, List.setIfInBounds_toArray, List.set_cons_zero, List.set_cons_succ]
      refine wpAnyL_two (i := 12) (j := 21) (by kernel_rfl) rfl rfl (by rfl) (by rfl) (fun K hK => ?_) (fun K hK => ?_) 
      · refine wp_call_fn 85 _ _ (by rfl) #[.agg (taC ta).toArray, .agg (taC tb).toArray] (by with_unfolding_all rfl) entTJ (some 20) (by rfl) _ (unhide HTJ Z1) ?_
        rintro _ Z2 ⟨rfl, hb⟩
        have HJ2 := hide ((unhide HJ1).belw hb)
        have HGZ2 := hide (rng_keep (unhide HGZ1) hb)
        clear hb
        refine hK _ _ (fun _ => unhide HJ2) ?_
        clear hK K
        simp only [Act.put, List.setIfInBounds_toArray, List.set_cons_zero, List.set_cons_succ]
        refine wpAnyL_two (i := 18) (j := 21) (by kernel_rfl) rfl rfl (by rfl) (by rfl) (fun K hK => ?_) (fun K hK => ?_) 
        · refine wp_call_fn 86 _ _ (by rfl) #[.slice (some ⟨G, 0, none⟩) 2 2] (by with_unfolding_all rfl) entCC (some 26) (by rfl) _ (unhide HCC G Z2 (unhide HGZ2)) ?_
          rintro _ Z3 ⟨rfl, hw⟩
          obtain rfl := hw.symm
          refine hK _ _ (fun _ => unhide HJ2) ?_
          clear hK K
          simp only [Act.put, List.setIfInBounds_toArray, List.set_cons_zero, List.set_cons_succ]
          refine wpAnyL_two (i := 19) (j := 21) (by kernel_rfl) rfl rfl (by rfl) (by rfl) (fun K hK => ?_) (fun K hK => ?_) 
          · refine wp_call_fn 58 _ _ (by rfl) #[.slice none 0 0] (by with_unfolding_all rfl) entSO (some 27) (by rfl) _ (unhide HSO Z2) ?_
            rintro _ Z4 ⟨rfl, hw⟩
            obtain rfl := hw.symm
            refine hK _ _ (fun _ => unhide HJ2) ?_
            clear hK K
            simp only [Act.put, List.setIfInBounds_toArray, List.set_cons_zero, List.set_cons_succ]
            refine wpAnyL_two (i := 20) (j := 21) (by kernel_rfl) rfl rfl (by rfl) (by rfl) (fun K hK => ?_) (fun K hK => ?_) 
            · refine wp_bld (by rfl) _ (by simp only [List.map_toArray, List.map_cons, List.map_nil]; exact unhide HBT Z2) (some 28) (by rfl) ?_
              refine hK _ _ (fun _ => unhide HJ2) ?_
              clear hK K
              simp only [Act.put, List.setIfInBounds_toArray, List.set_cons_zero, List.set_cons_succ]
              refine wpAnyL_one (i := 21) (by kernel_rfl) rfl (by rfl) fun K hK => ?_
              refine wp_alloc_ty (by rfl) (some 5) (by rfl) ?_
              intro Z6 HMZ6 hb
              have HMN : Hid (N + 1 + 1 < Z2.heap.size) := (unhide HJ2).b2.lt
              have hb := unhide hb
              have HJ6 := hide ((unhide HJ2).belw hb)
              have HGZ6 := hide (rng_keep (unhide HGZ2) hb)
              clear hb
              generalize Z2.heap.size = M at HMZ6 HMN ⊢
              refine hK _ _ (fun _ => unhide HJ6) ?_
              clear hK K
              simp only [Act.put, List.setIfInBounds_toArray, List.set_cons_zero, List.set_cons_succ]
              refine wpAnyL_one (i := 22) (by kernel_rfl) rfl (by rfl) fun K hK => ?_
              refine wp_store_ty (.tmp 5) (.tmp 28) (by rfl) (by rfl) M k true none 0 0 (tjn ta tb) none 0 0 (by rfl) (by rfl) (unhide HTL) (unhide HMZ6) ?_
              intro Z9 HX9 HE9 HS9 HO9
              have HJ9 : Hid (J3 u Z9 N k true fa n fc ta on2 fb fd tb) := (unhide HJ6).set (unhide HMN) (unhide HE9) (unhide HO9)
              refine hK _ _ (fun h => absurd rfl h) ?_
              clear hK K
              refine wpAnyL_done (by kernel_rfl) ?_ _
              go_wp2_with fail
              go_meet
              exact ⟨M, rfl, ⟨unhide HMN, unhide HJ9, unhide HX9⟩⟩
            · refine wp_alloc_ty (by rfl) (some 5) (by rfl) ?_
              intro Z5 HMZ5 hb
              have HMN : Hid (N + 1 + 1 < Z2.heap.size) := (unhide HJ2).b2.lt
              have hb := unhide hb
              have HJ5 := hide ((unhide HJ2).belw hb)
              have HGZ5 := hide (rng_keep (unhide HGZ2) hb)
              clear hb
              generalize Z2.heap.size = M at HMZ5 HMN ⊢
              refine hK _ _ (fun _ => unhide HJ5) ?_
              clear hK K
              simp only [Act.put, List.setIfInBounds_toArray, List.set_cons_zero, List.set_cons_succ]
              refine wpAnyL_one (i := 20) (by kernel_rfl) rfl (by rfl) fun K hK => ?_
              refine wp_bld (by rfl) _ (by simp only [List.map_toArray, List.map_cons, List.map_nil]; exact unhide HBT Z5) (some 28) (by rfl) ?_
              refine hK _ _ (fun _ => unhide HJ5) ?_
              clear hK K
              simp only [Act.put, List.setIfInBounds_toArray, List.set_cons_zero, List.set_cons_succ]
              refine wpAnyL_one (i := 22) (by kernel_rfl) rfl (by rfl) fun K hK => ?_
              refine wp_store_ty (.tmp 5) (.tmp 28) (by rfl) (by rfl) M k true none 0 0 (tjn ta tb) none 0 0 (by rfl) (by rfl) (unhide HTL) (unhide HMZ5) ?_
              intro Z9 HX9 HE9 HS9 HO9
              have HJ9 : Hid (J3 u Z9 N k true fa n fc ta on2 fb fd tb) := (unhide HJ5).set (unhide HMN) (unhide HE9) (unhide HO9)
              refine hK _ _ (fun h => absurd rfl h) ?_
              clear hK K
              refine wpAnyL_done (by kernel_rfl) ?_ _
              go_wp2_with fail
              go_meet
              exact ⟨M, rfl, ⟨unhide HMN, unhide HJ9, unhide HX9⟩⟩
          · refine wp_alloc_ty (by rfl) (some 5) (by rfl) ?_
            intro Z4 HMZ4 hb
            have HMN : Hid (N + 1 + 1 < Z2.heap.size) := (unhide HJ2).b2.lt
            have hb := unhide hb
            have HJ4 := hide ((unhide HJ2).belw hb)
            have HGZ4 := hide (rng_keep (unhide HGZ2) hb)
            clear hb
            generalize Z2.heap.size = M at HMZ4 HMN ⊢
            refine hK _ _ (fun _ => unhide HJ4) ?_
            clear hK K
            simp only [Act.put, List.setIfInBounds_toArray, List.set_cons_zero, List.set_cons_succ]
            refine wpAnyL_one (i := 19) (by kernel_rfl) rfl (by rfl) fun K hK => ?_
            refine wp_call_fn 58 _ _ (by rfl) #[.slice none 0 0] (by with_unfolding_all rfl) entSO (some 27) (by rfl) _ (unhide HSO Z4) ?_
            rintro _ Z5 ⟨rfl, hw⟩
            obtain rfl := hw.symm
            refine hK _ _ (fun _ => unhide HJ4) ?_
            clear hK K
            simp only [Act.put, List.setIfInBounds_toArray, List.set_cons_zero, List.set_cons_succ]
            refine wpAnyL_one (i := 20) (by kernel_rfl) rfl (by rfl) fun K hK => ?_
            refine wp_bld (by rfl) _ (by simp only [List.map_toArray, List.map_cons, List.map_nil]; exact unhide HBT Z4) (some 28) (by rfl) ?_
            refine hK _ _ (fun _ => unhide HJ4) ?_
            clear hK K
            simp only [Act.put, List.setIfInBounds_toArray, List.set_cons_zero, List.set_cons_succ]
            refine wpAnyL_one (i := 22) (by kernel_rfl) rfl (by rfl) fun K hK => ?_
            refine wp_store_ty (.tmp 5) (.tmp 28) (by rfl) (by rfl) M k true none 0 0 (tjn ta tb) none 0 0 (by rfl) (by rfl) (unhide HTL) (unhide HMZ4) ?_
            intro Z9 HX9 HE9 HS9 HO9
            have HJ9 : Hid (J3 u Z9 N k true fa n fc ta on2 fb fd tb) := (unhide HJ4).set (unhide HMN) (unhide HE9) (unhide HO9)
            refine hK _ _ (fun h => absurd rfl h) ?_
            clear hK K
            refine wpAnyL_done (by kernel_rfl) ?_ _
            go_wp2_with fail
            go_meet
            exact ⟨M, rfl, ⟨unhide HMN, unhide HJ9, unhide HX9⟩⟩
        · refine wp_alloc_ty (by rfl) (some 5) (by rfl) ?_
          intro Z3 HMZ3 hb
          have HMN : Hid (N + 1 + 1 < Z2.heap.size) := (unhide HJ2).b2.lt
          have hb := unhide hb
          have HJ3 := hide ((unhide HJ2).belw hb)
          have HGZ3 := hide (rng_keep (unhide HGZ2) hb)
          clear hb
          generalize Z2.heap.size = M at HMZ3 HMN ⊢
          refine hK _ _ (fun _ => unhide HJ3) ?_
          clear hK K
          simp only [Act.put, List.setIfInBounds_toArray, List.set_cons_zero, List.set_cons_succ]
          refine wpAnyL_one (i := 18) (by kernel_rfl) rfl (by rfl) fun K hK => ?_
          refine wp_call_fn 86 _ _ (by rfl) #[.slice (some ⟨G, 0, none⟩) 2 2] (by with_unfolding_all rfl) entCC (some 26) (by rfl) _ (unhide HCC G Z3 (unhide HGZ3)) ?_
          rintro _ Z4 ⟨rfl, hw⟩
          obtain rfl := hw.symm
          refine hK _ _ (fun _ => unhide HJ3) ?_
          clear hK K
          simp only [Act.put, List.setIfInBounds_toArray, List.set_cons_zero, List.set_cons_succ]
          refine wpAnyL_one (i := 19) (by kernel_rfl) rfl (by rfl) fun K hK => ?_
          refine wp_call_fn 58 _ _ (by rfl) #[.slice none 0 0] (by with_unfolding_all rfl) entSO (some 27) (by rfl) _ (unhide HSO Z3) ?_
          rintro _ Z5 ⟨rfl, hw⟩
          obtain rfl := hw.symm
          refine hK _ _ (fun _ => unhide HJ3) ?_
          clear hK K
          simp only [Act.put, List.setIfInBounds_toArray, List.set_cons_zero, List.set_cons_succ]
          refine wpAnyL_one (i := 20) (by kernel_rfl) rfl (by rfl) fun K hK => ?_
          refine wp_bld (by rfl) _ (by simp only [List.map_toArray, List.map_cons, List.map_nil]; exact unhide HBT Z3) (some 28) (by rfl) ?_
          refine hK _ _ (fun _ => unhide HJ3) ?_
          clear hK K
          simp only [Act.put, List.setIfInBounds_toArray, List.set_cons_zero, List.set_cons_succ]
          refine wpAnyL_one (i := 22) (by kernel_rfl) rfl (by rfl) fun K hK => ?_
          refine wp_store_ty (.tmp 5) (.tmp 28) (by rfl) (by rfl) M k true none 0 0 (tjn ta tb) none 0 0 (by rfl) (by rfl) (unhide HTL) (unhide HMZ3) ?_
          intro Z9 HX9 HE9 HS9 HO9
          have HJ9 : Hid (J3 u Z9 N k true fa n fc ta on2 fb fd tb) := (unhide HJ3).set (unhide HMN) (unhide HE9) (unhide HO9)
          refine hK _ _ (fun h => absurd rfl h) ?_
          clear hK K
          refine wpAnyL_done (by kernel_rfl) ?_ _
          go_wp2_with fail
          go_meet
          exact ⟨M, rfl, ⟨unhide HMN, unhide HJ9, unhide HX9⟩⟩
      · refine wp_alloc_ty (by rfl) (some 5) (by rfl) ?_
        intro Z2 HMZ2 hb
        have HMN : Hid (N + 1 + 1 < Z1.heap.size) := (unhide HJ1).b2.lt
        have hb := unhide hb
        have HJ2 := hide ((unhide HJ1).belw hb)
        have HGZ2 := hide (rng_keep (unhide HGZ1) hb)
        clear hb
        generalize Z1.heap.size = M at HMZ2 HMN ⊢
        refine hK _ _ (fun _ => unhide HJ2) ?_
        clear hK K
        simp only [Act.put, List.setIfInBounds_toArray, List.set_cons_zero, List.set_cons_succ]
        refine wpAnyL_one (i := 12) (by kernel_rfl) rfl (by rfl) fun K hK => ?_
        refine wp_call_fn 85 _ _ (by rfl) #[.agg (taC ta).toArray, .agg (taC tb).toArray] (by with_unfolding_all rfl) entTJ (some 20) (by rfl) _ (unhide HTJ Z2) ?_
        rintro _ Z3 ⟨rfl, hb⟩
        have HJ3 := hide ((unhide HJ2).belw hb)
        have HGZ3 := hide (rng_keep (unhide HGZ2) hb)
        have HMZ3 := hide ((unhide HMZ2).below hb)
        clear hb
        refine hK _ _ (fun _ => unhide HJ3) ?_
        clear hK K
        simp only [Act.put, List.setIfInBounds_toArray, List.set_cons_zero, List.set_cons_succ]
        refine wpAnyL_one (i := 18) (by kernel_rfl) rfl (by rfl) fun K hK => ?_
        refine wp_call_fn 86 _ _ (by rfl) #[.slice (some ⟨G, 0, none⟩) 2 2] (by with_unfolding_all rfl) entCC (some 26) (by rfl) _ (unhide HCC G Z3 (unhide HGZ3)) ?_
        rintro _ Z4 ⟨rfl, hw⟩
        obtain rfl := hw.symm
        refine hK _ _ (fun _ => unhide HJ3) ?_
        clear hK K
        simp only [Act.put, List.setIfInBounds_toArray, List.set_cons_zero, List.set_cons_succ]
        refine wpAnyL_one (i := 19) (by kernel_rfl) rfl (by rfl) fun K hK => ?_
        refine wp_call_fn 58 _ _ (by rfl) #[.slice none 0 0] (by with_unfolding_all rfl) entSO (some 27) (by rfl) _ (unhide HSO Z3) ?_
        rintro _ Z5 ⟨rfl, hw⟩
        obtain rfl := hw.symm
        refine hK _ _ (fun _ => unhide HJ3) ?_
        clear hK K
        simp only [Act.put, List.setIfInBounds_toArray, List.set_cons_zero, List.set_cons_succ]
        refine wpAnyL_one (i := 20) (by kernel_rfl) rfl (by rfl) fun K hK => ?_
        refine wp_bld (by rfl) _ (by simp only [List.map_toArray, List.map_cons, List.map_nil]; exact unhide HBT Z3) (some 28) (by rfl) ?_
        refine hK _ _ (fun _ => unhide HJ3) ?_
        clear hK K
        simp only [Act.put, List.setIfInBounds_toArray, List.set_cons_zero, List.set_cons_succ]
        refine wpAnyL_one (i := 22) (by kernel_rfl) rfl (by rfl) fun K hK => ?_
        refine wp_store_ty (.tmp 5) (.tmp 28) (by rfl) (by rfl) M k true none 0 0 (tjn ta tb) none 0 0 (by rfl) (by rfl) (unhide HTL) (unhide HMZ3) ?_
        intro Z9 HX9 HE9 HS9 HO9
        have HJ9 : Hid (J3 u Z9 N k true fa n fc ta on2 fb fd tb) := (unhide HJ3).set (unhide HMN) (unhide HE9) (unhide HO9)
        refine hK _ _ (fun h => absurd rfl h) ?_
        clear hK K
        refine wpAnyL_done (by kernel_rfl) ?_ _
        go_wp2_with fail
        go_meet
        exact ⟨M, rfl, ⟨unhide HMN, unhide HJ9, unhide HX9⟩⟩
    · refine wp_alloc_ty (by rfl) (some 5) (by rfl) ?_
      intro Z1 HMZ1 hb
      have HMN : Hid (N + 1 + 1 < Z0.heap.size) := (unhide HJ0).b2.lt
      have hb := unhide hb
      have HJ1 := hide ((unhide HJ0).belw hb)
      clear hb
      generalize Z0.heap.size = M at HMZ1 HMN ⊢
      refine hK _ _ (fun _ => unhide HJ1) ?_
      clear hK K
      simp only [Act.put, List.setIfInBounds_toArray, List.set_cons_zero, List.set_cons_succ]
      refine wpAnyL_two (i := 12) (j := 17) (by kernel_rfl) rfl rfl (by rfl) (by rfl) (fun K hK => ?_) (fun K hK => ?_) 
      · refine wp_call_fn 85 _ _ (by rfl) #[.agg (taC ta).toArray, .agg (taC tb).toArray] (by with_unfolding_all rfl) entTJ (some 20) (by rfl) _ (unhide HTJ Z1) ?_
        rintro _ Z2 ⟨rfl, hb⟩
        have HJ2 := hide ((unhide HJ1).belw hb)
        have HMZ2 := hide ((unhide HMZ1).below hb)
        clear hb
        refine hK _ _ (fun _ => unhide HJ2) ?_
        clear hK K
        simp only [Act.put, List.setIfInBounds_toArray, List.set_cons_zero, List.set_cons_succ]
        refine wpAnyL_one (i := 17) (by kernel_rfl) rfl (by rfl) fun K hK => ?_
        refine wp_buildTo (by rfl) _ _ (by simp only [List.map_toArray, List.map_cons, List.map_nil]; exact bsRR Z2) (some 25) (by rfl) ?_
        have hb0 : Below Z2.heap.size Z2 (Z2.alloc (.cells #[.slice none 0 0, .slice none 0 0] 30)) := (Below.refl _ _).alloc (Nat.le_refl _) _
        have HGZ3 := hide (rr_new Z2 30)
        generalize Z2.alloc (.cells #[.slice none 0 0, .slice none 0 0] 30) = Z3 at hb0 HGZ3 ⊢
        have hb := hb0
        have HJ3 := hide ((unhide HJ2).belw hb)
        have HMZ3 := hide ((unhide HMZ2).below hb)
        clear hb hb0
        generalize Z2.heap.size = G at HGZ3 ⊢
        refine hK _ _ (fun _ => unhide HJ3) ?_
        clear hK K
        simp only [Act.put, List.setIfInBounds_toArray, List.set_cons_zero, List.set_cons_succ]
        refine wpAnyL_one (i := 18) (by kernel_rfl) rfl (by rfl) fun K hK => ?_
        refine wp_call_fn 86 _ _ (by rfl) #[.slice (some ⟨G, 0, none⟩) 2 2] (by with_unfolding_all rfl) entCC (some 26) (by rfl) _ (unhide HCC G Z3 (unhide HGZ3)) ?_
        rintro _ Z4 ⟨rfl, hw⟩
        obtain rfl := hw.symm
        refine hK _ _ (fun _ => unhide HJ3) ?_
        clear hK K
        simp only [Act.put, List.setIfInBounds_toArray, List.set_cons_zero, List.set_cons_succ]
        refine wpAnyL_one (i := 19) (by kernel_rfl) rfl (by rfl) fun K hK => ?_
        refine wp_call_fn 58 _ _ (by rfl) #[.slice none 0 0] (by with_unfolding_all rfl) entSO (some 27) (by rfl) _ (unhide HSO Z3) ?_
        rintro _ Z5 ⟨rfl, hw⟩
        obtain rfl := hw.symm
        refine hK _ _ (fun _ => unhide HJ3) ?_
        clear hK K
        simp only [Act.put, List.setIfInBounds_toArray, List.set_cons_zero, List.set_cons_succ]
        refine wpAnyL_one (i := 20) (by kernel_rfl) rfl (by rfl) fun K hK => ?_
        refine wp_bld (by rfl) _ (by simp only [List.map_toArray, List.map_cons, List.map_nil]; exact unhide HBT Z3) (some 28) (by rfl) ?_
        refine hK _ _ (fun _ => unhide HJ3) ?_
        clear hK K
        simp only [Act.put, List.setIfInBounds_toArray, List.set_cons_zero, List.set_cons_succ]
        refine wpAnyL_one (i := 22) (by kernel_rfl) rfl (by rfl) fun K hK => ?_
        refine wp_store_ty (.tmp 5) (.tmp 28) (by rfl) (by rfl) M k true none 0 0 (tjn ta tb) none 0 0 (by rfl) (by rfl) (unhide HTL) (unhide HMZ3) ?_
        intro Z9 HX9 HE9 HS9 HO9
        have HJ9 : Hid (J3 u Z9 N k true fa n fc ta on2 fb fd tb) := (unhide HJ3).set (unhide HMN) (unhide HE9) (unhide HO9)
        refine hK _ _ (fun h => absurd rfl h) ?_
        clear hK K
        refine wpAnyL_done (by kernel_rfl) ?_ _
        go_wp2_with fail
        go_meet
        exact ⟨M, rfl, ⟨unhide HMN, unhide HJ9, unhide HX9⟩⟩
      · refine wp_buildTo (by rfl) _ _ (by simp only [List.map_toArray, List.map_cons, List.map_nil]; exact bsRR Z1) (some 25) (by rfl) ?_
        have hb0 : Below Z1.heap.size Z1 (Z1.alloc (.cells #[.slice none 0 0, .slice none 0 0] 30)) := (Below.refl _ _).alloc (Nat.le_refl _) _
        have HGZ2 := hide (rr_new Z1 30)
        generalize Z1.alloc (.cells #[.slice none 0 0, .slice none 0 0] 30) = Z2 at hb0 HGZ2 ⊢
        have hb := hb0
        have HJ2 := hide ((unhide HJ1).belw hb)
        have HMZ2 := hide ((unhide HMZ1).below hb)
        clear hb hb0
        generalize Z1.heap.size = G at HGZ2 ⊢
        refine hK _ _ (fun _ => unhide HJ2) ?_
        clear hK K
        simp only [Act.put, List.setIfInBounds_toArray, List.set_cons_zero, List.set_cons_succ]
        refine wpAnyL_one (i := 12) (by kernel_rfl) rfl (by rfl) fun K hK => ?_
        refine wp_call_fn 85 _ _ (by rfl) #[.agg (taC ta).toArray, .agg (taC tb).toArray] (by with_unfolding_all rfl) entTJ (some 20) (by rfl) _ (unhide HTJ Z2) ?_
        rintro _ Z3 ⟨rfl, hb⟩
        have HJ3 := hide ((unhide HJ2).belw hb)
        have HGZ3 := hide (rng_keep (unhide HGZ2) hb)
        have HMZ3 := hide ((unhide HMZ2).below hb)
        clear hb
        refine hK _ _ (fun _ => unhide HJ3) ?_
        clear hK K
        simp only [Act.put, List.setIfInBounds_toArray, List.set_cons_zero, List.set_cons_succ]
        refine wpAnyL_one (i := 18) (by kernel_rfl) rfl (by rfl) fun K hK => ?_
        refine wp_call_fn 86 _ _ (by rfl) #[.slice (some ⟨G, 0, none⟩) 2 2] (by with_unfolding_all rfl) entCC (some 26) (by rfl) _ (unhide HCC G Z3 (unhide HGZ3)) ?_
        rintro _ Z4 ⟨rfl, hw⟩
        obtain rfl := hw.symm
        refine hK _ _ (fun _ => unhide HJ3) ?_
        clear hK K
        simp only [Act.put, List.setIfInBounds_toArray, List.set_cons_zero, List.set_cons_succ]
        refine wpAnyL_one (i := 19) (by kernel_rfl) rfl (by rfl) fun K hK => ?_
        refine wp_call_fn 58 _ _ (by rfl) #[.slice none 0 0] (by with_unfolding_all rfl) entSO (some 27) (by rfl) _ (unhide HSO Z3) ?_
        rintro _ Z5 ⟨rfl, hw⟩
        obtain rfl := hw.symm
        refine hK _ _ (fun _ => unhide HJ3) ?_
        clear hK K
        simp only [Act.put, List.setIfInBounds_toArray, List.set_cons_zero, List.set_cons_succ]
        refine wpAnyL_one (i := 20) (by kernel_rfl) rfl (by rfl) fun K hK => ?_
        refine wp_bld (by rfl) _ (by simp only [List.map_toArray, List.map_cons, List.map_nil]; exact unhide HBT Z3) (some 28) (by rfl) ?_
        refine hK _ _ (fun _ => unhide HJ3) ?_
        clear hK K
        simp only [Act.put, List.setIfInBounds_toArray, List.set_cons_zero, List.set_cons_succ]
        refine wpAnyL_one (i := 22) (by kernel_rfl) rfl (by rfl) fun K hK => ?_
        refine wp_store_ty (.tmp 5) (.tmp 28) (by rfl) (by rfl) M k true none 0 0 (tjn ta tb) none 0 0 (by rfl) (by rfl) (unhide HTL) (unhide HMZ3) ?_
        intro Z9 HX9 HE9 HS9 HO9
        have HJ9 : Hid (J3 u Z9 N k true fa n fc ta on2 fb fd tb) := (unhide HJ3).set (unhide HMN) (unhide HE9) (unhide HO9)
        refine hK _ _ (fun h => absurd rfl h) ?_
        clear hK K
        refine wpAnyL_done (by kernel_rfl) ?_ _
        go_wp2_with fail
        go_meet
        exact ⟨M, rfl, ⟨unhide HMN, unhide HJ9, unhide HX9⟩⟩
  case rest =>
    obtain ⟨M, rfl, HC⟩ := hcut
    have HI0 : Hid (Jl u wc N M wc.heap.size k true fa n fc ta on2 fb fd tb true none 0 0 (tjn ta tb) []) := ⟨(unhide HC).2.1, (unhide HC).2.2, ⟨rfl, .inl ⟨rfl, rfl⟩⟩, (unhide HC).1, (unhide HC).2.2.lt, Nat.le_refl _⟩
    have c2 := (unhide HC).2.1.b0.c2
    clear HC HJ
    generalize wc.heap.size = B at HI0
    go_wp2_with fail
    clear c2
    go_loopw [32] (fun s32 wr => ∃ (i : Nat) (go : Option Addr) (gc : Nat), i ≤ n ∧ s32 = .int .i64 i ∧ Hid (Jl u wr N M B k true fa n fc ta on2 fb fd tb true go i gc (tjn ta tb) (List.zipWith grt (la.take i) (lb.take i)))) (fun s32 _ => n - (intOf s32).toNat)
    case atStart => exact ⟨0, none, 0, Nat.zero_le _, rfl, unhide HI0⟩
    case round =>
      obtain ⟨i, go, gc, hi, rfl, HI⟩ := hrel
      have hmx : n ≤ 1000000 := by rw [unhide HNN]; exact unhide HMX
      by_cases hlt : i < n
      · have hki : (i : Int) < (n : Int) := by omega
        have hia : i < la.length := by have := unhide HNN; omega
        have hib : i < lb.length := by have := unhide HN2; omega
        have HBL : Hid (Below u.heap.size u wr) := by rw [← unhide HN]; exact (unhide HI).j3.bl
        obtain ⟨g1, o1, hf1, hr1⟩ := (unhide HLA) (by rw [flC_len]; omega)
        obtain ⟨g2, o2, hf2, hr2⟩ := (unhide HLB) (by rw [flC_len]; omega)
        have cx0 := hr1 i _ (flC_get hia)
        have cy0 := hr2 i _ (flC_get hib)
        have HG2 : Hid (g2 < N) := by rw [unhide HN]; exact World.block_lt_of_cell? u _ cy0
        have cx := ((unhide HBL).cell (p := ⟨g1, o1 + i, none⟩) (World.block_lt_of_cell? u _ cx0)).trans cx0
        have HY := hide (((unhide HBL).cell (p := ⟨g2, o2 + i, none⟩) (World.block_lt_of_cell? u _ cy0)).trans cy0)
        have HTK : Hid (List.zipWith grt (la.take (i + 1)) (lb.take (i + 1)) = List.zipWith grt (la.take i) (lb.take i) ++ [grt la[i] lb[i]]) := by
          rw [List.take_succ_eq_append_getElem hia, List.take_succ_eq_append_getElem hib, List.zipWith_append (by rw [List.length_take, List.length_take]; omega)]
          rfl
        have HGR : Hid (∀ w : World, Calls Try.prog 87 #[.float .f64 la[i], .float .f64 lb[i]] w fun e w' => ∃ v, e = .returned v ∧ (v = .float .f64 (grt la[i] lb[i]) ∧ w' = w)) := fun w => (kGreater _ _ (unhide HAB _ (List.getElem_mem hia)) (unhide HBB _ (List.getElem_mem hib)) w).mono fun e w' hh => ⟨_, hh.1, rfl, hh.2⟩
        have hix1 := ixF g1 o1 n fc i hlt
        have hix2 := ixF g2 o2 n fd i hlt
        have HJM : Hid (i ≤ 1000000) := by show i ≤ 1000000; omega
        clear cx0 cy0 hr1 hr2 HLA HLB
        generalize grt la[i] lb[i] = z at *
        generalize la[i] = x at *
        generalize lb[i] = y at *
        generalize List.zipWith grt (la.take i) (lb.take i) = fl at *
        generalize o1 + i = oj at *
        generalize o2 + i = oi at *
        subst hf1 hf2
        go_wp2_with fail
        refine wp_region_last (fun v => Bt v M k true go i gc (tjn ta tb) none 0 0 ∧ Bt v (N + 1) k on2 (some ⟨g2, o2, none⟩) n fd tb none 0 0 ∧ v.cell? ⟨g2, oi, none⟩ = some (.float .f64 y)) 12 hmix ⟨(unhide HI).drew.bt, (unhide HI).drew.j3.b1, unhide HY⟩ fun hS => ?_
        have HQ0 := hide ((unhide HI).drew)
        have HY0 : Hid (wr.drew.cell? ⟨g2, oi, none⟩ = some (.float .f64 y)) := unhide HY
        generalize wr.drew = Z0 at hS HQ0 HY0 ⊢
        refine wpAnyL_take 0 37 (.pointer (some ⟨M, 2, none⟩)) [] rfl rfl (by kernel_rfl) (by kernel_rfl) (by kernel_rfl) (by kernel_rfl) (by kernel_rfl) (fun _ _ _ h => h) (by rfl) (fun _ _ => by go_simp) hS ?_
        simp only [Act.put, List.setIfInBounds_toArray, List.set_cons_zero, List.set_cons_succ]
        refine wpAnyL_take 1 38 (.slice go i gc) [] rfl rfl (by kernel_rfl) (by kernel_rfl) (by kernel_rfl) (by kernel_rfl) (by kernel_rfl) (fun _ _ _ h => h) (by rfl) (fun v hv => by have q2 := hv.1.c2; go_simp) hS ?_
        simp only [Act.put, List.setIfInBounds_toArray, List.set_cons_zero, List.set_cons_succ]
        refine wpAnyL_take 2 39 (.float .f64 x) [] rfl rfl (by kernel_rfl) (by kernel_rfl) (by kernel_rfl) (by kernel_rfl) (by kernel_rfl) (fun _ _ _ h => h) (by rfl) (fun _ _ => by go_simp) hS ?_
        simp only [Act.put, List.setIfInBounds_toArray, List.set_cons_zero, List.set_cons_succ]
        refine wpAnyL_take 3 40 (.pointer (some ⟨N + 1, 2, none⟩)) [] rfl rfl (by kernel_rfl) (by kernel_rfl) (by kernel_rfl) (by kernel_rfl) (by kernel_rfl) (fun _ _ _ h => h) (by rfl) (fun _ _ => by go_simp) hS ?_
        simp only [Act.put, List.setIfInBounds_toArray, List.set_cons_zero, List.set_cons_succ]
        refine wpAnyL_take 4 41 (.slice (some ⟨g2, o2, none⟩) n fd) [] rfl rfl (by kernel_rfl) (by kernel_rfl) (by kernel_rfl) (by kernel_rfl) (by kernel_rfl) (fun _ _ _ h => h) (by rfl) (fun v hv => by have q2 := hv.2.1.c2; go_simp) hS ?_
        simp only [Act.put, List.setIfInBounds_toArray, List.set_cons_zero, List.set_cons_succ]
        refine wpAnyL_take 5 42 (.int .i64 (i : Int)) [] rfl rfl (by kernel_rfl) (by kernel_rfl) (by kernel_rfl) (by kernel_rfl) (by kernel_rfl) (fun _ _ _ h => h) (by rfl) (fun _ _ => by go_simp) hS ?_
        simp only [Act.put, List.setIfInBounds_toArray, List.set_cons_zero, List.set_cons_succ]
        refine wpAnyL_take 6 43 (.pointer (some ⟨g2, oi, none⟩)) [] rfl rfl (by kernel_rfl) (by kernel_rfl) (by kernel_rfl) (by kernel_rfl) (by kernel_rfl) (fun _ _ _ h => h) (by rfl) (fun _ _ => by go_simp) hS ?_
        simp only [Act.put, List.setIfInBounds_toArray, List.set_cons_zero, List.set_cons_succ]
        refine wpAnyL_take 7 44 (.float .f64 y) [] rfl rfl (by kernel_rfl) (by kernel_rfl) (by kernel_rfl) (by kernel_rfl) (by kernel_rfl) (fun _ _ _ h => h) (by rfl) (fun v hv => by have q2 := hv.2.2; go_simp) hS ?_
        simp only [Act.put, List.setIfInBounds_toArray, List.set_cons_zero, List.set_cons_succ]
        refine wpAnyL_one (i := 8) (by kernel_rfl) rfl (by rfl) fun K hK => ?_
        refine wp_call_fn 87 _ _ (by rfl) #[.float .f64 x, .float .f64 y] (by with_unfolding_all rfl) entGr (some 45) (by rfl) _ (unhide HGR Z0) ?_
        rintro _ Z5 ⟨rfl, hw⟩
        obtain rfl := hw.symm
        refine hK _ _ (fun _ => ⟨(unhide HQ0).bt, (unhide HQ0).j3.b1, unhide HY0⟩) ?_
        clear hK K
        simp only [Act.put, List.setIfInBounds_toArray, List.set_cons_zero, List.set_cons_succ]
        refine wpAnyL_one (i := 9) (by kernel_rfl) rfl (by rfl) fun K hK => ?_
        refine wp_buildTo (by rfl) _ _ (by simp only [List.map_toArray, List.map_cons, List.map_nil]; exact bsF Z0 z) (some 46) (by rfl) ?_
        have hb6 : Below Z0.heap.size Z0 (Z0.alloc (.cells #[.float .f64 z] 36)) := (Below.refl _ _).alloc (Nat.le_refl _) _
        have HQ6 := hide ((unhide HQ0).belw hb6)
        have HY6 : Hid ((Z0.alloc (.cells #[.float .f64 z] 36)).cell? ⟨g2, oi, none⟩ = some (.float .f64 y)) := (hb6.cell (p := ⟨g2, oi, none⟩) (World.block_lt_of_cell? Z0 _ (unhide HY0))).trans (unhide HY0)
        have HC6 := hide (one_cell Z0 (.float .f64 z) 36)
        clear hb6
        generalize Z0.alloc (.cells #[.float .f64 z] 36) = Z6 at HQ6 HC6 HY6 ⊢
        generalize Z0.heap.size = G6 at HC6 ⊢
        refine hK _ _ (fun _ => ⟨(unhide HQ6).bt, (unhide HQ6).j3.b1, unhide HY6⟩) ?_
        clear hK K
        simp only [Act.put, List.setIfInBounds_toArray, List.set_cons_zero, List.set_cons_succ]
        refine wpAnyL_one (i := 10) (by kernel_rfl) rfl (by rfl) fun K hK => ?_
        refine wp_putV elF (.tmp 38) (.tmp 46) (by rfl) (some 47) (by rfl) B (flC fl) (.float .f64 z) go i gc G6 0 1 (by rfl) (by rfl) (unhide HQ6).own (unhide HC6) rfl (by have := unhide HJM; omega) (by unfold maxLen; have := unhide HJM; omega) (unhide HQ6).h3 ?_
        intro go' j' gc' Z7 HN7 HO7 _ HB7
        have HBT7 := hide ((unhide HQ6).bt.same ((unhide HB7).block M (unhide HQ6).h2))
        have HB17 := hide ((unhide HQ6).j3.b1.same ((unhide HB7).block (N + 1) (by have h1 := (unhide HQ6).h1; have h2 := (unhide HQ6).h2; omega)))
        have HY7 : Hid (Z7.cell? ⟨g2, oi, none⟩ = some (.float .f64 y)) := by rw [World.cell?_of_block (w := Z6) (a := ⟨g2, oi, none⟩) ((unhide HB7).block g2 (by have := unhide HG2; have h1 := (unhide HQ6).h1; have h2 := (unhide HQ6).h2; omega))]; exact unhide HY6
        refine hK _ _ (fun _ => ⟨unhide HBT7, unhide HB17, unhide HY7⟩) ?_
        clear hK K
        simp only [Act.put, List.setIfInBounds_toArray, List.set_cons_zero, List.set_cons_succ]
        refine wpAnyL_one (i := 11) (by kernel_rfl) rfl (by rfl) fun K hK => ?_
        refine wp_val (.pointer (some ⟨M, 2, none⟩)) (by go_simp) (some 48) (by rfl) ?_
        refine hK _ _ (fun _ => ⟨unhide HBT7, unhide HB17, unhide HY7⟩) ?_
        clear hK K
        simp only [Act.put, List.setIfInBounds_toArray, List.set_cons_zero, List.set_cons_succ]
        refine wpAnyL_one (i := 12) (by kernel_rfl) rfl (by rfl) fun K hK => ?_
        refine wp_store_sl 28 (.tmp 48) (.tmp 47) (by rfl) (by rfl) M 2 go' j' gc' (by rfl) (by rfl) ((unhide HBT7).there (by decide)) infoF ?_
        have HQ8 : Hid (Jl u (Z7.setCell ⟨M, 2, none⟩ (.slice go' j' gc')) N M B k true (some ⟨g1, o1, none⟩) n fc ta on2 (some ⟨g2, o2, none⟩) fd tb true go' j' gc' (tjn ta tb) (fl ++ [z])) := (unhide HQ6).grow (unhide HB7) (by have := unhide HO7; rw [show flC fl ++ [Value.float .f64 z] = flC (fl ++ [z]) by simp [flC]] at this; exact this)
        generalize Z7.setCell ⟨M, 2, none⟩ (.slice go' j' gc') = Z8 at HQ8 ⊢
        refine hK _ _ (fun h => absurd rfl h) ?_
        clear hK K
        refine wpAnyL_done (by kernel_rfl) ?_ _
        go_wp2
        go_roundw
        case rel => exact ⟨i + 1, go', gc', by omega, by go_num, by rw [unhide HTK, ← unhide HN7]; exact unhide HQ8⟩
        case measure => simp [intOf]; omega
      · obtain rfl : i = n := by omega
        have hki : ¬ (i : Int) < (i : Int) := by omega
        have HF : Hid (List.zipWith grt (la.take i) (lb.take i) = List.zipWith grt la lb) := by
          show _ = _
          rw [List.take_of_length_le (by rw [unhide HNN]; exact Nat.le_refl _), List.take_of_length_le (by rw [unhide HN2, unhide HNN]; exact Nat.le_refl _)]
        rw [unhide HF] at HI
        go_wp2_with (first
          | ((with_reducible refine wpList_load_ty (by rfl) (.tmp 5) (by rfl) (some 50) (by rfl) M (by with_unfolding_all rfl) (unhide HI).bt ?_); simp only [Act.put, List.setIfInBounds_toArray, List.set_cons_zero, List.set_cons_succ])
          | ((with_reducible refine wpList_store_ty (by rfl) (.tmp 4) (.tmp 50) (by rfl) (N + 1 + 1) k true go i gc (tjn ta tb) none 0 0 (by with_unfolding_all rfl) (by with_unfolding_all rfl) (unhide HTL) (unhide HI).j3.b2 ?_); intro Z9 HX9 HE9 HS9 HO9; simp only [Act.put])
          | fail)
        refine bodyPost_ret (results_ty rfl _ _ (N + 1 + 1) k true go i gc (tjn ta tb) none 0 0 rfl (unhide HX9)) rfl ?_
        refine ⟨go, gc, i, rfl, unhide HNN, own_keep (own_down (unhide HI).own (by have h1 := (unhide HI).h1; have h2 := (unhide HI).h2; omega)) fun g hg => unhide HO9 g ?_, unhide HE9 _ _ (by omega) (unhide HI).j3.bl⟩
        have h0 := World.ownsRow.lt (unhide HI).own g hg
        have h1 := (unhide HI).h1
        have h2 := (unhide HI).h2
        omega
end Go.Proofs.Ytpepgealeanecaa
