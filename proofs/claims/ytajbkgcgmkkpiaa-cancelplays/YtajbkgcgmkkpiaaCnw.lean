/- The document's tokens: New. Written by mkcnw.py. -/
import Derived.Test.YtajbkgcgmkkpiaaCnv
import Derived.Deep.DeepCutAuto
namespace Go.Proofs.Ytajbkgcgmkkpiaa.C
open Go.RowKit Go.Lib
theorem bsR (W : World) (x y : Int) : (Instr.buildSlice 29 1 #[(0, .agg #[.int .i64 x, .int .i64 y])]).run Try.prog W = .ok (.slice (some ⟨W.heap.size, 0, none⟩) 1 1) (W.alloc (.cells #[.int .i64 x, .int .i64 y] 112)) := by kernel_rfl
theorem slInfoR : (Try.prog.info? 29).map (·.size) = some 1 := by kernel_rfl
theorem oneR (W : World) (x y : Int) : RR.At (W.alloc (.cells #[.int .i64 x, .int .i64 y] 112)) [(x, y)] (some ⟨W.heap.size, 0, none⟩) 1 :=
  ⟨fun _ => ⟨_, 0, rfl, fun j v hv => by
    have h1 := heap_alloc_new W (.cells #[.int .i64 x, .int .i64 y] 112)
    simp only [World.cell?, h1, Nat.zero_add]
    simpa [S.Rec.flat, RR] using hv⟩, by simp, (fun e => by cases e), by simp⟩
theorem there_at {w : World} {b o : Nat} {v : Value} (h : w.cell? ⟨b, o, none⟩ = some v) (hf : w.frozen? ⟨b, o, none⟩ = false) : w.there b o 1 := fun j hj => by
  obtain rfl : j = 0 := by omega
  rw [Nat.add_zero]
  exact ⟨by rw [h]; rfl, hf⟩
theorem wp_store_at {P : Program} {o : Oper} {a : Act} {w : World} {K : Act → World → Prop} {Q : Exit → Act → World → Prop} (ty : TypeId) (x y : Operand) (ho : o.op = .store ty x y) (hd : o.dst = none) (b k : Nat) (ao : Option Addr) (n c : Nat) (hx : a.eval x = .pointer (some ⟨b, k, none⟩)) (hy : a.eval y = .slice ao n c)
    (ht : w.there b k 1) (hi : (P.info? ty).map (·.size) = some 1)
    (h : K a (w.setCell ⟨b, k, none⟩ (.slice ao n c))) : o.wp P a w K Q := by
  have h1 : (storeVar ty ⟨b, k, none⟩ (.slice ao n c)).run P w = .ok () (w.setCells b k [.slice ao n c]) := run_storeVar_mid (P := P) w b k ty #[.slice ao n c] ht hi (by simp [Value.oneCell'])
  unfold Oper.wp execOp
  simp only [ho, hx, hy, Instr.storeAt, Instr.sureAddr, Sem.run_bind, Sem.run_pure, Result.andThen_ok, h1]
  exact (show K (a.put o.dst undef) _ by rw [hd]; exact h)
theorem wp_buildTo {P : Program} {o : Oper} {a : Act} {w : World} {K : Act → World → Prop} {Q : Exit → Act → World → Prop} {t : TypeId} {len : Nat} {parts : Array (Nat × Operand)} (ho : o.op = .buildSlice t len parts)
    (v : Value) (w' : World) (hr : (Instr.buildSlice t len (parts.map fun (i, x) => (i, a.eval x))).run P w = .ok v w') (d : Option Tmp) (hd : o.dst = d) (h : K (a.put d v) w') : o.wp P a w K Q := by
  subst hd
  unfold Oper.wp execOp
  simp only [ho, Sem.run_bind, hr, Result.andThen_ok, Sem.run_pure]
  exact h
section
variable {B db n cb : Nat} {W : World} {up : Nat → Nat} {y : Nat → Int} {bo : Option Addr}
/-- what the document's New leaves: its row grown, and told of on the desk -/
def RNew (B : Nat) (W w' : World) (db n : Nat) (l : List (Int × Int)) : Prop := ∃ V bo' cb', Rt B W V ∧ w' = V.setCell ⟨db, 1, none⟩ (.slice bo' (n + 1) cb') ∧ RR.Own w' B l bo' cb'
theorem Rt.of {B : Nat} {U W : World} (h : Below U.heap.size U W) (hB : B ≤ U.heap.size) : Rt B U W := ⟨h.os, h.tape, h.output, h.size, fun b hb => h.block b (by omega), fun b _ hb _ => (h.block b (Array.getElem?_eq_some_iff.1 hb).1).trans hb⟩
theorem Rt.alloc {B : Nat} (W : World) (hB : B ≤ W.heap.size) (o : Obj) : Rt B W (W.alloc o) := Rt.of ((Below.refl _ _).alloc (Nat.le_refl _) _) hB
set_option maxRecDepth 100000 in
set_option maxHeartbeats 1000000 in
theorem kRNew0 (h : RD B W db up y n bo cb) (hn : n < 6000000000000) (hB : B ≤ W.heap.size) (dv : Value) (dk : W.heap[db]? = some (.cells #[dv, .slice bo n cb] 33 (0, 0))) :
    Calls Try.prog 44 #[.pointer (some ⟨db, 1, none⟩), .int .i64 (-1)] W fun e w' => (∃ v, e = .returned v) ∧ RNew B W w' db n (refF up y n ++ [((-1), 0)]) := by
  have hmix : Try.prog.follows .mixedOrders = true := by kernel_rfl
  obtain ⟨N, hN⟩ : ∃ N, N = W.heap.size := ⟨_, rfl⟩
  have hb0 : Below W.heap.size W (W.alloc (.cells #[.int .i64 (-1), .int .i64 0] 112)) := (Below.refl _ _).alloc (Nat.le_refl _) _
  have hnb : ∀ {k : Nat}, (Value.slice bo n cb).ownBlock = some k → k < N := fun hk => by have := (World.ownsRow.lt (show RR.Own W B (refF up y n) bo cb from h.row) _ (by rw [refF_len]; exact hk)).2; omega
  have hdn : db < W.heap.size := (Array.getElem?_eq_some_iff.1 dk).1
  have HL := hide (show n = (refF up y n).length by rw [refF_len])
  have HLN := HL
  have HLL := fun x : Int × Int => hide (show ((refF up y n).length + [x].length) * 16 ≤ 140737488355328 by rw [refF_len]; simp; omega)
  have HDK := hide dk
  have HRW := hide h.row
  have HB := hide hB
  have HN := hide hN
  have HDN := hide hdn
  have HNB := hide (show (Value.slice bo (refF up y n).length cb).ownBlock = some N → N < N by rw [refF_len]; exact fun e => hnb e)
  have HNN := hide hn
  clear h hn dk hnb hB hN
  go_enter Try.func44, Try.ntmps44
  go_upto_region 4 with fail
  clear hb0
  rw [← unhide HN]
  obtain ⟨X, hX⟩ : ∃ X, X = W.alloc (.cells #[.int .i64 (-1), .int .i64 0] 112) := ⟨_, rfl⟩
  rw [← hX]
  have hbX : Below W.heap.size W X := by rw [hX]; exact (Below.refl _ _).alloc (Nat.le_refl _) _
  have hXn : X.heap[N]? = some (.cells #[.int .i64 (-1), .int .i64 0] 112 (0, 0)) := by rw [hX, unhide HN]; exact heap_alloc_new W _
  have hXs : Rt B W X := by
    rw [hX]
    exact Rt.alloc W (unhide HB) _
  have HO0 := hide ((unhide HRW).below hbX)
  refine wp_region_last (fun V => V.heap[db]? = some (.cells #[dv, .slice bo n cb] 33 (0, 0)) ∧ V.heap[N]? = some (.cells #[.int .i64 (-1), .int .i64 0] 112 (0, 0))) 10 hmix ⟨(hbX.block _ (unhide HDN)).trans (unhide HDK), hXn⟩ fun hS => ?_
  have HO : Hid (RR.Own X.drew B (refF up y n) bo cb) := (unhide HO0).below (S.belowDrew (Below.refl _ _))
  have HXS : Hid (Rt B W X.drew) := ⟨hXs.os, hXs.tape, hXs.output, hXs.size, hXs.low, hXs.oth⟩
  have HXB : Hid (B ≤ X.drew.heap.size) := Nat.le_trans (unhide HB) hbX.size
  clear hbX hXn hXs HO0 hX hmix
  generalize X.drew = X0 at hS HO HXS HXB ⊢
  refine wpAnyL_take 0 19 (.pointer (some ⟨db, 1, none⟩)) [] rfl rfl (by kernel_rfl) (by kernel_rfl) (by kernel_rfl) (by kernel_rfl) (by kernel_rfl) (fun _ _ _ h => h) (by rfl) (fun _ _ => by go_simp) hS ?_
  simp only [Act.put, List.setIfInBounds_toArray, List.set_cons_zero, List.set_cons_succ]
  refine wpAnyL_take 1 20 (.pointer (some ⟨db, 1, none⟩)) [] rfl rfl (by kernel_rfl) (by kernel_rfl) (by kernel_rfl) (by kernel_rfl) (by kernel_rfl) (fun _ _ _ h => h) (by rfl) (fun _ _ => by go_simp) hS ?_
  simp only [Act.put, List.setIfInBounds_toArray, List.set_cons_zero, List.set_cons_succ]
  refine wpAnyL_take 2 21 (.pointer (some ⟨db, 1, none⟩)) [] rfl rfl (by kernel_rfl) (by kernel_rfl) (by kernel_rfl) (by kernel_rfl) (by kernel_rfl) (fun _ _ _ h => h) (by rfl) (fun _ _ => by go_simp) hS ?_
  simp only [Act.put, List.setIfInBounds_toArray, List.set_cons_zero, List.set_cons_succ]
  refine wpAnyL_take 3 22 (.pointer (some ⟨db, 1, none⟩)) [] rfl rfl (by kernel_rfl) (by kernel_rfl) (by kernel_rfl) (by kernel_rfl) (by kernel_rfl) (fun _ _ _ h => h) (by rfl) (fun _ _ => by go_simp) hS ?_
  simp only [Act.put, List.setIfInBounds_toArray, List.set_cons_zero, List.set_cons_succ]
  refine wpAnyL_take 4 23 (.slice bo n cb) [] rfl rfl (by kernel_rfl) (by kernel_rfl) (by kernel_rfl) (by kernel_rfl) (by kernel_rfl) (fun _ _ _ h => h) (by rfl) (fun G hG => by obtain ⟨e0, e1⟩ := S.box2 hG.1; go_simp) hS ?_
  simp only [Act.put, List.setIfInBounds_toArray, List.set_cons_zero, List.set_cons_succ]
  refine wpAnyL_take 5 24 (.agg #[.int .i64 (-1), .int .i64 0]) [] rfl rfl (by kernel_rfl) (by kernel_rfl) (by kernel_rfl) (by kernel_rfl) (by kernel_rfl) (fun _ _ _ h => h) (by rfl) (fun G hG => by obtain ⟨e0, e1⟩ := S.box2 hG.2; go_simp) hS ?_
  simp only [Act.put, List.setIfInBounds_toArray, List.set_cons_zero, List.set_cons_succ]
  refine wpAnyL_one (i := 6) (by kernel_rfl) rfl (by rfl) fun K hK => ?_
  refine wp_buildTo (by rfl) (.slice (some ⟨X0.heap.size, 0, none⟩) 1 1) (X0.alloc (.cells #[.int .i64 (-1), .int .i64 0] 112)) (by simp only [List.map_toArray, List.map_cons, List.map_nil]; exact bsR X0 (-1) 0) (some 25) (by rfl) ?_
  have HB1 : Hid (Below X0.heap.size X0 (X0.alloc (.cells #[.int .i64 (-1), .int .i64 0] 112))) := (Below.refl _ _).alloc (Nat.le_refl _) _
  have HA1 := hide (oneR X0 (-1) 0)
  have HD1 := hide (S.box_below hS.1 (unhide HB1))
  have HE1 := hide (S.box_below hS.2 (unhide HB1))
  have HO1 := hide ((unhide HO).below (unhide HB1))
  refine hK _ _ (fun _ => ⟨unhide HD1, unhide HE1⟩) ?_
  clear hK K
  simp only [Act.put, List.setIfInBounds_toArray, List.set_cons_zero, List.set_cons_succ]
  generalize X0.alloc (.cells #[.int .i64 (-1), .int .i64 0] 112) = X1 at HB1 HA1 HD1 HE1 HO1 ⊢
  refine wpAnyL_one (i := 7) (by kernel_rfl) rfl (by rfl) fun K hK => ?_
  refine RR.wp_put (.tmp 23) (.tmp 25) (by rfl) (some 26) (by rfl) B (refF up y n) [((-1), 0)] n 1 (unhide HLN) rfl bo (some ⟨X0.heap.size, 0, none⟩) cb 1 (by with_unfolding_all rfl) (by with_unfolding_all rfl) (unhide HO1) (unhide HA1) (unhide (HLL ((-1), 0))) (by have := (unhide HB1).size; have := unhide HXB; omega) ?_
  intro x4 n4 c4 W4 HP4
  have HD4 := hide (put_keep (unhide HO1) (unhide HP4) (unhide HD1) (by simp; decide))
  have HE4 := hide (((unhide HP4).grown.block N (Array.getElem?_eq_some_iff.1 (unhide HE1)).1 (fun e => by
    have := World.ownsRow.lt (unhide HO) N e.symm
    have h1 := unhide HNB
    exact absurd (h1 e.symm) (Nat.lt_irrefl _))).trans (unhide HE1))
  refine hK _ _ (fun _ => ⟨unhide HD4, unhide HE4⟩) ?_
  clear hK K
  simp only [Act.put, List.setIfInBounds_toArray, List.set_cons_zero, List.set_cons_succ]
  refine wpAnyL_take 8 27 (.pointer (some ⟨db, 1, none⟩)) [9] rfl rfl (by kernel_rfl) (by kernel_rfl) (by kernel_rfl) (by kernel_rfl) (by kernel_rfl) (fun _ _ _ h => h) (by rfl) (fun _ _ => by go_simp) ⟨unhide HD4, unhide HE4⟩ ?_
  simp only [Act.put, List.setIfInBounds_toArray, List.set_cons_zero, List.set_cons_succ]
  refine wpAnyL_take 9 28 (.pointer (some ⟨db, 1, none⟩)) [] rfl rfl (by kernel_rfl) (by kernel_rfl) (by kernel_rfl) (by kernel_rfl) (by kernel_rfl) (fun _ _ _ h => h) (by rfl) (fun _ _ => by go_simp) ⟨unhide HD4, unhide HE4⟩ ?_
  simp only [Act.put, List.setIfInBounds_toArray, List.set_cons_zero, List.set_cons_succ]
  refine wpAnyL_one (i := 10) (by kernel_rfl) rfl (by rfl) fun K hK => ?_
  refine wp_store_at 29 (.tmp 28) (.tmp 26) (by rfl) (by rfl) db 1 x4 n4 c4 (by with_unfolding_all rfl) (by with_unfolding_all rfl) (there_at (S.box2 (unhide HD4)).2 (frz0 (unhide HD4) 1)) slInfoR ?_
  refine hK _ _ (fun h => absurd rfl h) ?_
  clear hK K
  refine wpAnyL_done (by kernel_rfl) ?_ _
  have HL4 := hide ((unhide HP4).len)
  have HPP := hide (unhide HP4)
  have hl4 := unhide HL4
  rw [List.length_append, refF_len] at hl4
  obtain rfl : n4 = n + 1 := hl4
  have hcd : (W4.setCell ⟨db, 1, none⟩ (.slice x4 (n + 1) c4)).cell? ⟨db, 1, none⟩ = some (.slice x4 (n + 1) c4) := World.cell?_setCell_same _ _ _ (S.box2 (unhide HD4)).2
  have HRT : Hid (Rt B W W4) := (unhide HXS).trans ((show Rt B X0 X1 from Rt.of (unhide HB1) (unhide HXB)).trans ⟨(unhide HP4).grown.os, (unhide HP4).grown.tape, (unhide HP4).grown.output, (unhide HP4).grown.size, (unhide HP4).below.block, fun _ _ hb hno => put_keep (unhide HO1) (unhide HP4) hb hno⟩)
  have HOW : Hid (RR.Own (W4.setCell ⟨db, 1, none⟩ (.slice x4 (n + 1) c4)) B (refF up y n ++ [((-1), 0)]) x4 c4) := S.own_keep (unhide HP4).own fun k hk => hcOther (fun e => by
    subst e
    rcases (unhide HP4).own.2 with ⟨hv, _⟩ | ⟨g', cap, cur, hv, _, hh, _⟩
    · rw [hv] at hk; cases hk
    · rw [hv] at hk
      obtain rfl : g' = k := Option.some.inj hk
      rw [unhide HD4] at hh
      simp at hh
      exact absurd hh.2 (by decide))
  go_wp2
  go_ret
  exact ⟨⟨_, rfl⟩, W4, x4, c4, unhide HRT, rfl, unhide HOW⟩
set_option maxRecDepth 100000 in
set_option maxHeartbeats 1000000 in
theorem kRNew1 (h : RD B W db up y n bo cb) (hn : n < 6000000000000) (hB : B ≤ W.heap.size) (dv : Value) (dk : W.heap[db]? = some (.cells #[dv, .slice bo n cb] 33 (0, 0))) {j : Nat} (hj : j < n) :
    Calls Try.prog 44 #[.pointer (some ⟨db, 1, none⟩), .int .i64 (j : Int)] W fun e w' => (∃ v, e = .returned v) ∧ RNew B W w' db n (refF up y n ++ [((j : Int), (y j))]) := by
  have hmix : Try.prog.follows .mixedOrders = true := by kernel_rfl
  obtain ⟨N, hN⟩ : ∃ N, N = W.heap.size := ⟨_, rfl⟩
  have hb0 : Below W.heap.size W (W.alloc (.cells #[.int .i64 (j : Int), .int .i64 0] 112)) := (Below.refl _ _).alloc (Nat.le_refl _) _
  have hnb : ∀ {k : Nat}, (Value.slice bo n cb).ownBlock = some k → k < N := fun hk => by have := (World.ownsRow.lt (show RR.Own W B (refF up y n) bo cb from h.row) _ (by rw [refF_len]; exact hk)).2; omega
  have hdn : db < W.heap.size := (Array.getElem?_eq_some_iff.1 dk).1
  obtain ⟨g, rfl, _, h1⟩ := h.get hj
  have hix := fun w => ixR g n cb j hj w
  have hjp : (j : Int) ≥ 0 := by omega
  have hjp' : (0 : Int) ≤ (j : Int) := by omega
  have hjn : (j : Int) < (n : Int) := by omega
  have hs' : (W.alloc (.cells #[.int .i64 (j : Int), .int .i64 0] 112)).cell? ⟨db, 1, none⟩ = some (.slice (some ⟨g, 0, none⟩) n cb) := hb0.cell (p := ⟨db, 1, none⟩) hdn |>.trans h.sl
  have h1' : (W.alloc (.cells #[.int .i64 (j : Int), .int .i64 0] 112)).cell? ⟨g, j * 2 + 1, none⟩ = some (.int .i64 (y j)) := hb0.cell (p := ⟨g, j * 2 + 1, none⟩) (World.block_lt_of_cell? W _ h1) |>.trans h1
  have HL := hide (show n = (refF up y n).length by rw [refF_len])
  have HLN := HL
  have HLL := fun x : Int × Int => hide (show ((refF up y n).length + [x].length) * 16 ≤ 140737488355328 by rw [refF_len]; simp; omega)
  have HDK := hide dk
  have HRW := hide h.row
  have HB := hide hB
  have HN := hide hN
  have HDN := hide hdn
  have HNB := hide (show (Value.slice (some ⟨g, 0, none⟩) (refF up y n).length cb).ownBlock = some N → N < N by rw [refF_len]; exact fun e => hnb e)
  have HNN := hide hn
  clear h hn dk hnb hB hN
  go_enter Try.func44, Try.ntmps44
  go_upto_region 4 with fail
  clear hb0
  rw [← unhide HN]
  obtain ⟨X, hX⟩ : ∃ X, X = W.alloc (.cells #[.int .i64 (j : Int), .int .i64 (y j)] 112) := ⟨_, rfl⟩
  rw [← hX]
  have hbX : Below W.heap.size W X := by rw [hX]; exact (Below.refl _ _).alloc (Nat.le_refl _) _
  have hXn : X.heap[N]? = some (.cells #[.int .i64 (j : Int), .int .i64 (y j)] 112 (0, 0)) := by rw [hX, unhide HN]; exact heap_alloc_new W _
  have hXs : Rt B W X := by
    rw [hX]
    exact Rt.alloc W (unhide HB) _
  have HO0 := hide ((unhide HRW).below hbX)
  refine wp_region_last (fun V => V.heap[db]? = some (.cells #[dv, .slice (some ⟨g, 0, none⟩) n cb] 33 (0, 0)) ∧ V.heap[N]? = some (.cells #[.int .i64 (j : Int), .int .i64 (y j)] 112 (0, 0))) 10 hmix ⟨(hbX.block _ (unhide HDN)).trans (unhide HDK), hXn⟩ fun hS => ?_
  have HO : Hid (RR.Own X.drew B (refF up y n) (some ⟨g, 0, none⟩) cb) := (unhide HO0).below (S.belowDrew (Below.refl _ _))
  have HXS : Hid (Rt B W X.drew) := ⟨hXs.os, hXs.tape, hXs.output, hXs.size, hXs.low, hXs.oth⟩
  have HXB : Hid (B ≤ X.drew.heap.size) := Nat.le_trans (unhide HB) hbX.size
  clear hbX hXn hXs HO0 hX hmix
  generalize X.drew = X0 at hS HO HXS HXB ⊢
  refine wpAnyL_take 0 19 (.pointer (some ⟨db, 1, none⟩)) [] rfl rfl (by kernel_rfl) (by kernel_rfl) (by kernel_rfl) (by kernel_rfl) (by kernel_rfl) (fun _ _ _ h => h) (by rfl) (fun _ _ => by go_simp) hS ?_
  simp only [Act.put, List.setIfInBounds_toArray, List.set_cons_zero, List.set_cons_succ]
  refine wpAnyL_take 1 20 (.pointer (some ⟨db, 1, none⟩)) [] rfl rfl (by kernel_rfl) (by kernel_rfl) (by kernel_rfl) (by kernel_rfl) (by kernel_rfl) (fun _ _ _ h => h) (by rfl) (fun _ _ => by go_simp) hS ?_
  simp only [Act.put, List.setIfInBounds_toArray, List.set_cons_zero, List.set_cons_succ]
  refine wpAnyL_take 2 21 (.pointer (some ⟨db, 1, none⟩)) [] rfl rfl (by kernel_rfl) (by kernel_rfl) (by kernel_rfl) (by kernel_rfl) (by kernel_rfl) (fun _ _ _ h => h) (by rfl) (fun _ _ => by go_simp) hS ?_
  simp only [Act.put, List.setIfInBounds_toArray, List.set_cons_zero, List.set_cons_succ]
  refine wpAnyL_take 3 22 (.pointer (some ⟨db, 1, none⟩)) [] rfl rfl (by kernel_rfl) (by kernel_rfl) (by kernel_rfl) (by kernel_rfl) (by kernel_rfl) (fun _ _ _ h => h) (by rfl) (fun _ _ => by go_simp) hS ?_
  simp only [Act.put, List.setIfInBounds_toArray, List.set_cons_zero, List.set_cons_succ]
  refine wpAnyL_take 4 23 (.slice (some ⟨g, 0, none⟩) n cb) [] rfl rfl (by kernel_rfl) (by kernel_rfl) (by kernel_rfl) (by kernel_rfl) (by kernel_rfl) (fun _ _ _ h => h) (by rfl) (fun G hG => by obtain ⟨e0, e1⟩ := S.box2 hG.1; go_simp) hS ?_
  simp only [Act.put, List.setIfInBounds_toArray, List.set_cons_zero, List.set_cons_succ]
  refine wpAnyL_take 5 24 (.agg #[.int .i64 (j : Int), .int .i64 (y j)]) [] rfl rfl (by kernel_rfl) (by kernel_rfl) (by kernel_rfl) (by kernel_rfl) (by kernel_rfl) (fun _ _ _ h => h) (by rfl) (fun G hG => by obtain ⟨e0, e1⟩ := S.box2 hG.2; go_simp) hS ?_
  simp only [Act.put, List.setIfInBounds_toArray, List.set_cons_zero, List.set_cons_succ]
  refine wpAnyL_one (i := 6) (by kernel_rfl) rfl (by rfl) fun K hK => ?_
  refine wp_buildTo (by rfl) (.slice (some ⟨X0.heap.size, 0, none⟩) 1 1) (X0.alloc (.cells #[.int .i64 (j : Int), .int .i64 (y j)] 112)) (by simp only [List.map_toArray, List.map_cons, List.map_nil]; exact bsR X0 (j : Int) (y j)) (some 25) (by rfl) ?_
  have HB1 : Hid (Below X0.heap.size X0 (X0.alloc (.cells #[.int .i64 (j : Int), .int .i64 (y j)] 112))) := (Below.refl _ _).alloc (Nat.le_refl _) _
  have HA1 := hide (oneR X0 (j : Int) (y j))
  have HD1 := hide (S.box_below hS.1 (unhide HB1))
  have HE1 := hide (S.box_below hS.2 (unhide HB1))
  have HO1 := hide ((unhide HO).below (unhide HB1))
  refine hK _ _ (fun _ => ⟨unhide HD1, unhide HE1⟩) ?_
  clear hK K
  simp only [Act.put, List.setIfInBounds_toArray, List.set_cons_zero, List.set_cons_succ]
  generalize X0.alloc (.cells #[.int .i64 (j : Int), .int .i64 (y j)] 112) = X1 at HB1 HA1 HD1 HE1 HO1 ⊢
  refine wpAnyL_one (i := 7) (by kernel_rfl) rfl (by rfl) fun K hK => ?_
  refine RR.wp_put (.tmp 23) (.tmp 25) (by rfl) (some 26) (by rfl) B (refF up y n) [((j : Int), (y j))] n 1 (unhide HLN) rfl (some ⟨g, 0, none⟩) (some ⟨X0.heap.size, 0, none⟩) cb 1 (by with_unfolding_all rfl) (by with_unfolding_all rfl) (unhide HO1) (unhide HA1) (unhide (HLL ((j : Int), (y j)))) (by have := (unhide HB1).size; have := unhide HXB; omega) ?_
  intro x4 n4 c4 W4 HP4
  have HD4 := hide (put_keep (unhide HO1) (unhide HP4) (unhide HD1) (by simp; decide))
  have HE4 := hide (((unhide HP4).grown.block N (Array.getElem?_eq_some_iff.1 (unhide HE1)).1 (fun e => by
    have := World.ownsRow.lt (unhide HO) N e.symm
    have h1 := unhide HNB
    exact absurd (h1 e.symm) (Nat.lt_irrefl _))).trans (unhide HE1))
  refine hK _ _ (fun _ => ⟨unhide HD4, unhide HE4⟩) ?_
  clear hK K
  simp only [Act.put, List.setIfInBounds_toArray, List.set_cons_zero, List.set_cons_succ]
  refine wpAnyL_take 8 27 (.pointer (some ⟨db, 1, none⟩)) [9] rfl rfl (by kernel_rfl) (by kernel_rfl) (by kernel_rfl) (by kernel_rfl) (by kernel_rfl) (fun _ _ _ h => h) (by rfl) (fun _ _ => by go_simp) ⟨unhide HD4, unhide HE4⟩ ?_
  simp only [Act.put, List.setIfInBounds_toArray, List.set_cons_zero, List.set_cons_succ]
  refine wpAnyL_take 9 28 (.pointer (some ⟨db, 1, none⟩)) [] rfl rfl (by kernel_rfl) (by kernel_rfl) (by kernel_rfl) (by kernel_rfl) (by kernel_rfl) (fun _ _ _ h => h) (by rfl) (fun _ _ => by go_simp) ⟨unhide HD4, unhide HE4⟩ ?_
  simp only [Act.put, List.setIfInBounds_toArray, List.set_cons_zero, List.set_cons_succ]
  refine wpAnyL_one (i := 10) (by kernel_rfl) rfl (by rfl) fun K hK => ?_
  refine wp_store_at 29 (.tmp 28) (.tmp 26) (by rfl) (by rfl) db 1 x4 n4 c4 (by with_unfolding_all rfl) (by with_unfolding_all rfl) (there_at (S.box2 (unhide HD4)).2 (frz0 (unhide HD4) 1)) slInfoR ?_
  refine hK _ _ (fun h => absurd rfl h) ?_
  clear hK K
  refine wpAnyL_done (by kernel_rfl) ?_ _
  have HL4 := hide ((unhide HP4).len)
  have HPP := hide (unhide HP4)
  have hl4 := unhide HL4
  rw [List.length_append, refF_len] at hl4
  obtain rfl : n4 = n + 1 := hl4
  have hcd : (W4.setCell ⟨db, 1, none⟩ (.slice x4 (n + 1) c4)).cell? ⟨db, 1, none⟩ = some (.slice x4 (n + 1) c4) := World.cell?_setCell_same _ _ _ (S.box2 (unhide HD4)).2
  have HRT : Hid (Rt B W W4) := (unhide HXS).trans ((show Rt B X0 X1 from Rt.of (unhide HB1) (unhide HXB)).trans ⟨(unhide HP4).grown.os, (unhide HP4).grown.tape, (unhide HP4).grown.output, (unhide HP4).grown.size, (unhide HP4).below.block, fun _ _ hb hno => put_keep (unhide HO1) (unhide HP4) hb hno⟩)
  have HOW : Hid (RR.Own (W4.setCell ⟨db, 1, none⟩ (.slice x4 (n + 1) c4)) B (refF up y n ++ [((j : Int), (y j))]) x4 c4) := S.own_keep (unhide HP4).own fun k hk => hcOther (fun e => by
    subst e
    rcases (unhide HP4).own.2 with ⟨hv, _⟩ | ⟨g', cap, cur, hv, _, hh, _⟩
    · rw [hv] at hk; cases hk
    · rw [hv] at hk
      obtain rfl : g' = k := Option.some.inj hk
      rw [unhide HD4] at hh
      simp at hh
      exact absurd hh.2 (by decide))
  go_wp2
  go_ret
  exact ⟨⟨_, rfl⟩, W4, x4, c4, unhide HRT, rfl, unhide HOW⟩
end
end Go.Proofs.Ytajbkgcgmkkpiaa.C
