/- CancelPlays: plays, kind 3. Written by mkcnz.py. -/
import Derived.Test.YtajbkgcgmkkpiaaCny
import Derived.Deep.DeepCutAuto
import Derived.BigQuiet
namespace Go.Proofs.Ytajbkgcgmkkpiaa.C
open Go.RowKit Go.Lib
section
variable {W wr : World} {db n na ca cb : Nat} {G : Geo} {Z : Nat → Dy} {ao bo : Option Addr}
theorem ent_l {P : Program} (F : FuncId) (h : (P.funcs[F]?).map (fun fn => (fn.name == "runtime.NumGoroutine", fn.body.isNone)) = some (false, false)) (args : Array Value) (w : World) : (callFunc F args).run P w = .ok (.enter F args) w := by
  cases hq : P.funcs[F]? with
  | none => simp [hq] at h
  | some fn =>
    simp only [hq, Option.map_some, Option.some.injEq, Prod.mk.injEq] at h
    have h1 : fn.name ≠ "runtime.NumGoroutine" := by simpa using h.1
    cases hb : fn.body with
    | none => simp [hb] at h
    | some c => simp [callFunc, hq, h1, hb]
theorem entCan : ∀ args (w : World), (callFunc 14 args).run Try.prog w = .ok (.enter 14 args) w := ent_l _ (by kernel_rfl)
theorem entRCan : ∀ args (w : World), (callFunc 46 args).run Try.prog w = .ok (.enter 46 args) w := ent_l _ (by kernel_rfl)
theorem wp_val {P : Program} {o : Oper} {a : Act} {w : World} {K : Act → World → Prop} {Q : Exit → Act → World → Prop} (v : Value) (hrun : (execOp a.eval o).run P w = .ok (.value v) w) (d : Option Tmp) (hd : o.dst = d) (h : K (a.put d v) w) : o.wp P a w K Q := by
  subst hd
  unfold Oper.wp
  rw [hrun]
  exact h
theorem wp_call_fn {P : Program} {o : Oper} {a : Act} {w : World} {K : Act → World → Prop} {Q : Exit → Act → World → Prop} (F : FuncId) (args : Array Operand) (ats : Array TypeId) (ho : o.op = .call { callee := .value (.func F), args := args, argTypes := ats })
    (xs : Array Value) (hx : args.map a.eval = xs) (hent : ∀ args (w : World), (callFunc F args).run P w = .ok (.enter F args) w) (d : Option Tmp) (hd : o.dst = d) (R : Value → World → Prop)
    (hc : Calls P F xs w fun e w' => ∃ v, e = .returned v ∧ R v w') (h : ∀ v w', R v w' → K (a.put d v) w') : o.wp P a w K Q := by
  subst hd
  have hrun : (execOp a.eval o).run P w = .ok (.enter F xs) w := by
    unfold execOp
    simp only [ho, resolve, Deferred.ofValue, Act.eval, invoke, Sem.run_bind, Sem.run_pure, Result.andThen_ok, hx]
    simpa using hent xs w
  unfold Oper.wp
  rw [hrun, Oper.upon_enter]
  refine hc.mono fun e w'' hh => ?_
  obtain ⟨v, rfl, hr⟩ := hh
  exact h v _ hr
theorem kCan2 {X : World} (h : DM W X db G Z n (allL G n) na (refF G.up (yZ Z) n) n ao bo ca cb) (hn : n < 6000000000000) {k : Nat} (hk : k ≤ n) (why : Int) {b : Bool} (hb : decide (k ≠ 0 ∧ whyN Z k = 0) = b) :
    Calls Try.prog 14 #[tkP G k, .int .i64 why] X fun e w' => ∃ v, e = .returned v ∧ (v = .bool b ∧ ∃ Z1, Cut W.heap.size X w' G Z n k why Z1) :=
  (kCancelN h.fo h.wf hn hk why).mono fun e w' ⟨Z1, h1, h2⟩ => ⟨_, h1, by rw [hb], Z1, h2⟩
theorem kRCan2 {X Y : World} (h : DM W X db G Z n (allL G n) na (refF G.up (yZ Z) n) n ao bo ca cb) {k : Nat} {why : Int} {Z1 : Nat → Dy} (hc : Cut W.heap.size X Y G Z n k why Z1) (hn : n < 6000000000000) (hk : k ≤ n) :
    Calls Try.prog 46 #[.pointer (some ⟨db, 1, none⟩), .int .i64 ((k : Int) - 1), .int .i64 why] Y fun e w' => ∃ v, e = .returned v ∧ (v = .bool (decide (k ≠ 0 ∧ whyN Z k = 0)) ∧
      RD W.heap.size w' db G.up (fun j => if k ≠ 0 ∧ whyN Z k = 0 ∧ (Z j).why = 0 ∧ abN G.up k (j + 1) = true then wy why else (Z j).why) n bo cb ∧ Rt W.heap.size Y w') :=
  (kRCanN (B := W.heap.size) (⟨(S.box2 (h.cut hc).dk).2, (h.cut hc).rf⟩ : RD W.heap.size Y db G.up (yZ Z) n bo cb) h.wf.uple hn hk why ⟨_, _, _, (h.cut hc).dk, by decide⟩).mono fun e w' ⟨h1, h2, h3⟩ => ⟨_, h1, rfl, h2, h3⟩
set_option maxRecDepth 100000 in
set_option maxHeartbeats 2000000 in
theorem kPlay3 (h : DM W wr db G Z n (allL G n) na (refF G.up (yZ Z) n) n ao bo ca cb) (hn : n < 5870000000000) (on why : Int) :
    Calls Try.prog 11 #[.pointer (some ⟨db, 0, none⟩), .agg #[.int .i64 3, .int .i64 on, .int .i64 why]] wr fun e w' => e = .returned (.bool true) ∧ ∃ Z', DM W w' db G Z' n (allL G n) na (refF G.up (yZ Z') n) n ao bo ca cb := by
  have hmix : Try.prog.follows .mixedOrders = true := by kernel_rfl
  have hm : na = n + 1 := by rw [h.ha, allL_len]
  have hwm : wrap64 ((na : Int) - 1) = (n : Int) := by simp only [wrap64]; omega
  have hwm2 : IntKind.i64.wrap ((na : Int) - 1) = (n : Int) := by rw [IntKind.wrap_i64]; omega
  obtain ⟨k, hk⟩ : ∃ k : Nat, on % ((n : Int) + 1) = (k : Int) := ⟨(on % ((n : Int) + 1)).toNat, by have := Int.emod_nonneg on (show (n : Int) + 1 ≠ 0 by omega); omega⟩
  have hkn : k ≤ n := by have := Int.emod_lt_of_pos on (show (0 : Int) < (n : Int) + 1 by omega); omega
  have HSEAT := hide (kSeat on n (by omega))
  rw [hk] at HSEAT
  have hwk : wrap64 ((k : Int) - 1) = (k : Int) - 1 := by simp only [wrap64]; omega
  have hwk2 : IntKind.i64.wrap ((k : Int) - 1) = (k : Int) - 1 := by rw [IntKind.wrap_i64]; omega
  have hkna : (k : Int) < (na : Int) := by omega
  have hdb : db < wr.heap.size := (Array.getElem?_eq_some_iff.1 h.dk).1
  obtain ⟨U, hU⟩ : ∃ U, U = wr.alloc (.cells #[.int .i64 3, .int .i64 on, .int .i64 why] 27) := ⟨_, rfl⟩
  have hbU : Below wr.heap.size wr U := by rw [hU]; exact (Below.refl _ _).alloc (Nat.le_refl _) _
  have hxU : U.heap[wr.heap.size]? = some (.cells #[.int .i64 3, .int .i64 on, .int .i64 why] 27 (0, 0)) := by rw [hU]; exact heap_alloc_new _ _
  obtain ⟨N, hN⟩ : ∃ N, N = wr.heap.size := ⟨_, rfl⟩
  rw [← hN] at hxU
  have h1 := h.below hbU
  have hd0 := (S.box2 h1.dk).1
  have hx0 := (S.box3 hxU).1
  have hx1 := (S.box3 hxU).2.1
  have hx2 := (S.box3 hxU).2.2
  have HU := hide hU
  have HH := hide h1
  have HXU := hide hxU
  have HN := hide hn
  have HK := hide hkn
  have HM := hide hm
  clear h h1 hn hm hk hkn hbU hU hxU hdb
  have HNN := hide hN
  clear hN
  go_enter Try.func11, Try.ntmps11
  go_wp2
  rw [← unhide HU, ← unhide HNN]
  clear HU HNN
  go_quiet (first | with_reducible exact Calls.quiet_of_same (unhide HSEAT _) | fail)
  have HX := hide ((unhide HH).below (belowDrewN (Below.refl _ _) nq))
  have hxb : (U.drewN nq).heap[N]? = some (.cells #[.int .i64 3, .int .i64 on, .int .i64 why] 27 (0, 0)) := unhide HXU
  clear HH HXU hd0 hx0 hx1 hx2 HSEAT
  generalize U.drewN nq = X at *
  obtain ⟨ga, rfl, hca⟩ := (unhide HX).tok (unhide HK)
  have hix := fun w => tokix ga na ca k (by have := unhide HK; have := unhide HM; omega) w
  have hd0 := (S.box2 (unhide HX).dk).1
  have hx0 := (S.box3 hxb).1
  have hx1 := (S.box3 hxb).2.1
  have hx2 := (S.box3 hxb).2.2
  obtain ⟨b, hb⟩ : ∃ b, decide (k ≠ 0 ∧ whyN Z k = 0) = b := ⟨_, rfl⟩
  have HB := hide hb
  clear hb
  go_upto_region 10 with fail
  refine wp_region_last (fun V => V.heap[db]? = some (.cells #[.slice (some ⟨ga, 0, none⟩) na ca, .slice bo n cb] 33 (0, 0)) ∧ V.heap[N]? = some (.cells #[.int .i64 3, .int .i64 on, .int .i64 why] 27 (0, 0)) ∧ V.cell? ⟨ga, k, none⟩ = some (tkP G k)) 19 hmix ⟨(unhide HX).dk, hxb, hca⟩ fun hS => ?_
  have HX0 := hide ((unhide HX).below (S.belowDrew (Below.refl _ _)))
  clear hmix hxb hca hd0 hx0 hx1 hx2 HX
  generalize X.drew = X0 at hS HX0 ⊢
  have HCAN := hide (kCan2 (unhide HX0) (by have := unhide HN; omega) (unhide HK) why (unhide HB))
  refine wpAnyL_take 0 46 (.pointer (some ⟨db, 0, none⟩)) [] rfl rfl (by kernel_rfl) (by kernel_rfl) (by kernel_rfl) (by kernel_rfl) (by kernel_rfl) (fun _ _ _ h => h) (by rfl) (fun _ _ => by go_simp) hS ?_
  simp only [Act.put, List.setIfInBounds_toArray, List.set_cons_zero, List.set_cons_succ]
  refine wpAnyL_take 1 47 (.pointer (some ⟨db, 0, none⟩)) [] rfl rfl (by kernel_rfl) (by kernel_rfl) (by kernel_rfl) (by kernel_rfl) (by kernel_rfl) (fun _ _ _ h => h) (by rfl) (fun _ _ => by go_simp) hS ?_
  simp only [Act.put, List.setIfInBounds_toArray, List.set_cons_zero, List.set_cons_succ]
  refine wpAnyL_take 2 48 (.pointer (some ⟨db, 0, none⟩)) [] rfl rfl (by kernel_rfl) (by kernel_rfl) (by kernel_rfl) (by kernel_rfl) (by kernel_rfl) (fun _ _ _ h => h) (by rfl) (fun _ _ => by go_simp) hS ?_
  simp only [Act.put, List.setIfInBounds_toArray, List.set_cons_zero, List.set_cons_succ]
  refine wpAnyL_take 3 49 (.slice (some ⟨ga, 0, none⟩) na ca) [] rfl rfl (by kernel_rfl) (by kernel_rfl) (by kernel_rfl) (by kernel_rfl) (by kernel_rfl) (fun _ _ _ h => h) (by rfl) (fun G hG => by obtain ⟨e0, e1⟩ := S.box2 hG.1; go_simp) hS ?_
  simp only [Act.put, List.setIfInBounds_toArray, List.set_cons_zero, List.set_cons_succ]
  refine wpAnyL_take 4 50 (.int .i64 (k : Int)) [] rfl rfl (by kernel_rfl) (by kernel_rfl) (by kernel_rfl) (by kernel_rfl) (by kernel_rfl) (fun _ _ _ h => h) (by rfl) (fun _ _ => by go_simp) hS ?_
  simp only [Act.put, List.setIfInBounds_toArray, List.set_cons_zero, List.set_cons_succ]
  refine wpAnyL_take 5 51 (.pointer (some ⟨ga, k, none⟩)) [] rfl rfl (by kernel_rfl) (by kernel_rfl) (by kernel_rfl) (by kernel_rfl) (by kernel_rfl) (fun _ _ _ h => h) (by rfl) (fun _ _ => by go_simp) hS ?_
  simp only [Act.put, List.setIfInBounds_toArray, List.set_cons_zero, List.set_cons_succ]
  refine wpAnyL_take 6 52 (tkP G k) [] rfl rfl (by kernel_rfl) (by kernel_rfl) (by kernel_rfl) (by kernel_rfl) (by kernel_rfl) (fun _ _ _ h => h) (by rfl) (fun G hG => by have e0 := hG.2.2; go_simp) hS ?_
  simp only [Act.put, List.setIfInBounds_toArray, List.set_cons_zero, List.set_cons_succ]
  refine wpAnyL_take 7 53 (.pointer (some ⟨N, 2, none⟩)) [] rfl rfl (by kernel_rfl) (by kernel_rfl) (by kernel_rfl) (by kernel_rfl) (by kernel_rfl) (fun _ _ _ h => h) (by rfl) (fun _ _ => by go_simp) hS ?_
  simp only [Act.put, List.setIfInBounds_toArray, List.set_cons_zero, List.set_cons_succ]
  refine wpAnyL_take 8 54 (.int .i64 why) [] rfl rfl (by kernel_rfl) (by kernel_rfl) (by kernel_rfl) (by kernel_rfl) (by kernel_rfl) (fun _ _ _ h => h) (by rfl) (fun G hG => by obtain ⟨e0, e1, e2⟩ := S.box3 hG.2.1; go_simp) hS ?_
  simp only [Act.put, List.setIfInBounds_toArray, List.set_cons_zero, List.set_cons_succ]
  refine wpAnyL_take 10 56 (.pointer (some ⟨db, 0, none⟩)) [] rfl rfl (by kernel_rfl) (by kernel_rfl) (by kernel_rfl) (by kernel_rfl) (by kernel_rfl) (fun _ _ _ h => h) (by rfl) (fun _ _ => by go_simp) hS ?_
  simp only [Act.put, List.setIfInBounds_toArray, List.set_cons_zero, List.set_cons_succ]
  refine wpAnyL_take 11 57 (.pointer (some ⟨db, 0, none⟩)) [] rfl rfl (by kernel_rfl) (by kernel_rfl) (by kernel_rfl) (by kernel_rfl) (by kernel_rfl) (fun _ _ _ h => h) (by rfl) (fun _ _ => by go_simp) hS ?_
  simp only [Act.put, List.setIfInBounds_toArray, List.set_cons_zero, List.set_cons_succ]
  refine wpAnyL_take 12 58 (.pointer (some ⟨db, 1, none⟩)) [] rfl rfl (by kernel_rfl) (by kernel_rfl) (by kernel_rfl) (by kernel_rfl) (by kernel_rfl) (fun _ _ _ h => h) (by rfl) (fun _ _ => by go_simp) hS ?_
  simp only [Act.put, List.setIfInBounds_toArray, List.set_cons_zero, List.set_cons_succ]
  refine wpAnyL_take 13 59 (.int .i64 (k : Int)) [] rfl rfl (by kernel_rfl) (by kernel_rfl) (by kernel_rfl) (by kernel_rfl) (by kernel_rfl) (fun _ _ _ h => h) (by rfl) (fun _ _ => by go_simp) hS ?_
  simp only [Act.put, List.setIfInBounds_toArray, List.set_cons_zero, List.set_cons_succ]
  refine wpAnyL_take 14 60 (.int .i64 ((k : Int) - 1)) [] rfl rfl (by kernel_rfl) (by kernel_rfl) (by kernel_rfl) (by kernel_rfl) (by kernel_rfl) (fun _ _ _ h => h) (by rfl) (fun _ _ => by go_simp) hS ?_
  simp only [Act.put, List.setIfInBounds_toArray, List.set_cons_zero, List.set_cons_succ]
  refine wpAnyL_take 15 61 (.pointer (some ⟨N, 2, none⟩)) [] rfl rfl (by kernel_rfl) (by kernel_rfl) (by kernel_rfl) (by kernel_rfl) (by kernel_rfl) (fun _ _ _ h => h) (by rfl) (fun _ _ => by go_simp) hS ?_
  simp only [Act.put, List.setIfInBounds_toArray, List.set_cons_zero, List.set_cons_succ]
  refine wpAnyL_take 16 62 (.int .i64 why) [] rfl rfl (by kernel_rfl) (by kernel_rfl) (by kernel_rfl) (by kernel_rfl) (by kernel_rfl) (fun _ _ _ h => h) (by rfl) (fun G hG => by obtain ⟨e0, e1, e2⟩ := S.box3 hG.2.1; go_simp) hS ?_
  simp only [Act.put, List.setIfInBounds_toArray, List.set_cons_zero, List.set_cons_succ]
  refine wpAnyL_one (i := 9) (by kernel_rfl) rfl (by rfl) fun K hK => ?_
  refine wp_call_fn 14 _ _ (by rfl) #[tkP G k, .int .i64 why] (by with_unfolding_all rfl) entCan (some 55) (by rfl) _ (unhide HCAN) ?_
  intro v9 X1 hv9
  obtain ⟨rfl, Z1, hcu⟩ := hv9
  have HD1 := hide ((unhide HX0).cut hcu)
  have hS1 : X1.heap[db]? = some (.cells #[.slice (some ⟨ga, 0, none⟩) na ca, .slice bo n cb] 33 (0, 0)) ∧ X1.heap[N]? = some (.cells #[.int .i64 3, .int .i64 on, .int .i64 why] 27 (0, 0)) ∧ X1.cell? ⟨ga, k, none⟩ = some (tkP G k) := ⟨(unhide HD1).dk, hcu.fr.typ _ _ _ _ hS.2.1 (by decide) (by decide), (unhide HD1).tok' (unhide HK)⟩
  have HRC := hide (kRCan2 (unhide HX0) hcu (by have := unhide HN; omega) (unhide HK))
  have HCU := hide hcu
  clear hcu
  refine hK _ _ (fun _ => hS1) ?_
  clear hK K
  simp only [Act.put, List.setIfInBounds_toArray, List.set_cons_zero, List.set_cons_succ]
  refine wpAnyL_one (i := 17) (by kernel_rfl) rfl (by rfl) fun K hK => ?_
  refine wp_call_fn 46 _ _ (by rfl) #[.pointer (some ⟨db, 1, none⟩), .int .i64 ((k : Int) - 1), .int .i64 why] (by with_unfolding_all rfl) entRCan (some 63) (by rfl) _ (unhide HRC) ?_
  intro v17 X2 hv17
  obtain ⟨hv17, hrd, hrt⟩ := hv17
  rw [unhide HB] at hv17
  subst hv17
  have hfin := (unhide HX0).both (unhide HCU) hrd hrt
  have hS2 : X2.heap[db]? = some (.cells #[.slice (some ⟨ga, 0, none⟩) na ca, .slice bo n cb] 33 (0, 0)) ∧ X2.heap[N]? = some (.cells #[.int .i64 3, .int .i64 on, .int .i64 why] 27 (0, 0)) ∧ X2.cell? ⟨ga, k, none⟩ = some (tkP G k) := ⟨hfin.dk, hrt.oth _ _ hS1.2.1 (by simp), hfin.tok' (unhide HK)⟩
  have HF := hide hfin
  clear hfin hrd hrt
  refine hK _ _ (fun _ => hS2) ?_
  clear hK K
  simp only [Act.put, List.setIfInBounds_toArray, List.set_cons_zero, List.set_cons_succ]
  refine wpAnyL_take 18 64 (.bool true) [] rfl rfl (by kernel_rfl) (by kernel_rfl) (by kernel_rfl) (by kernel_rfl) (by kernel_rfl) (fun _ _ _ h => h) (by rfl) (fun _ _ => by (have hbb : (b == b) = true := by simp); go_simp) hS2 ?_
  simp only [Act.put, List.setIfInBounds_toArray, List.set_cons_zero, List.set_cons_succ]
  refine wpAnyL_one (i := 19) (by kernel_rfl) rfl (by rfl) fun K hK => ?_
  refine wp_val (.bool true) (by go_simp) (some 4) (by rfl) ?_
  refine hK _ _ (fun _ => hS2) ?_
  clear hK K
  simp only [Act.put, List.setIfInBounds_toArray, List.set_cons_zero, List.set_cons_succ]
  refine wpAnyL_done (by kernel_rfl) ?_ _
  go_wp2
  go_ret
  exact ⟨rfl, Z1, unhide HF⟩
end
end Go.Proofs.Ytajbkgcgmkkpiaa.C
