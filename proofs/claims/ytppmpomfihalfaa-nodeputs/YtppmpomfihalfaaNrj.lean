/- Nodes: Shrink of a branch that may be. -/
import Derived.Test.YtppmpomfihalfaaNri
import Derived.Test.YtppmpomfihalfaaLs
namespace Go.Proofs.Ytppmpomfihalfaa
open Go.RowKit

theorem wp_val {P : Program} {o : Oper} {a : Act} {w : World} {K : Act → World → Prop} {Q : Exit → Act → World → Prop} (v : Value) (hrun : (execOp a.eval o).run P w = .ok (.value v) w) (d : Option Tmp) (hd : o.dst = d) (h : K (a.put d v) w) : o.wp P a w K Q := by
  subst hd
  unfold Oper.wp
  rw [hrun]
  exact h
/-- a call of a function of the program, within a drawn region -/
theorem wp_call_fn {P : Program} {o : Oper} {a : Act} {w : World} {K : Act → World → Prop} {Q : Exit → Act → World → Prop} (F : FuncId) (args : Array Operand) (ats : Array TypeId) (ho : o.op = .call { callee := .value (.func F), args := args, argTypes := ats })
    (xs : Array Value) (hx : args.map a.eval = xs) (hent : ∀ args (w : World), (callFunc F args).run P w = .ok (.enter F args) w) (d : Option Tmp) (hd : o.dst = d) (R : Value → World → Prop)
    (hc : Calls P F xs w fun e w' => ∃ v, e = .returned v ∧ R v w') (h : ∀ v w', R v w' → K (a.put d v) w') : o.wp P a w K Q := by
  subst hd
  have hrun : (execOp a.eval o).run P w = .ok (.enter F xs) w := by
    unfold execOp
    simp only [ho, resolve, Deferred.ofValue, Act.eval, invoke, Sem.run_bind, Sem.run_pure, Result.andThen_ok, hx]
    simpa using hent xs w
  unfold Oper.wp
  rw [hrun, Oper.upon_enter]
  refine hc.mono fun e w'' hh => ?_
  obtain ⟨v, rfl, hr⟩ := hh
  exact h v _ hr
def Nd.shrink (n : Nd) (i : Nat) : Nd := ⟨false, [], n.keys.take i ++ n.keys.drop (i + 1), n.kids.take (i + 1) ++ n.kids.drop (i + 2)⟩
theorem entK : ∀ args (w : World), (callFunc 91 args).run Try.prog w = .ok (.enter 91 args) w := by
  intro args w
  go_simp
theorem entG : ∀ args (w : World), (callFunc 92 args).run Try.prog w = .ok (.enter 92 args) w := by
  intro args w
  go_simp
set_option maxRecDepth 100000 in
set_option maxHeartbeats 4000000 in
theorem nShrink (n : Nd) (a : Nv) (i : Nat) (u : World) (h : NdAt u n a) (hc : n.refused false = 0) (hi : i < n.keys.length) : Calls Try.prog 48 #[a.v n, .int .i64 (i : Int)] u fun e u' => ∃ b : Nv, e = .returned (.tuple #[b.v (n.shrink i), .int .i64 0]) ∧ NdAt u' (n.shrink i) b ∧ Below u.heap.size u u' := by
  have hok := (Nd.refused_zero.1 hc).1
  have hle := hok.lens
  have hkk : n.kids.length = n.keys.length + 1 := by
    have hk := hok.kind
    have hlf := (Nd.refused_zero.1 hc).2
    unfold Nd.Kind at hk
    rw [if_neg (by rw [hlf]; decide)] at hk
    exact hk.2.2
  have H1 := hide (fun (v : World) (hb : Below u.heap.size u v) => nRefused n a false v (h.below hb))
  have H3 : Hid (∀ v : World, Below u.heap.size u v → Calls Try.prog 91 #[.slice a.ka n.keys.length a.kc, .int .i64 (i : Int), .int .i64 ((i + 1 : Nat) : Int), .slice none 0 0] v fun e u' => ∃ r, e = .returned r ∧ ∃ G c, r = .slice (some ⟨G, 0, none⟩) (n.shrink i).keys.length c ∧ v.heap.size ≤ G ∧ (Lies u' (some ⟨G, 0, none⟩) (flatK (n.shrink i).keys) ∧ (n.shrink i).keys.length ≤ c) ∧ Below v.heap.size v u') := fun v hb => by
    have h3 := nSplK (flatK n.keys) (flatK []) a.ka none n.keys.length a.kc 0 0 i (i + 1) v (h.below hb).keys (by simp [flatK]) (Lies.nil _ _) rfl (flatK_one _) (flatK_one _) h.cap.2.1 (by omega) (by omega) (by omega) (by decide)
    refine h3.mono ?_
    rintro e w' ⟨G, he, hG, hr, hb'⟩
    have hlen : (n.shrink i).keys.length = i + 0 + (n.keys.length - (i + 1)) := by
      simp only [Nd.shrink, List.length_append, List.length_take, List.length_drop]
      omega
    have hf : flatK (n.shrink i).keys = (flatK n.keys).take (i * 1) ++ (flatK [] ++ (flatK n.keys).drop ((i + 1) * 1)) := by simp [flatK, Nd.shrink, List.map_take, List.map_drop]
    exact ⟨_, he, G, i + 0 + (n.keys.length - (i + 1)), by rw [hlen], hG, ⟨by rw [hf]; exact Lies.row hr, by rw [hlen]; exact Nat.le_refl _⟩, hb'⟩
  have H4 : Hid (∀ v : World, Below u.heap.size u v → Calls Try.prog 92 #[.slice a.ga n.kids.length a.gc, .int .i64 ((i + 1 : Nat) : Int), .int .i64 ((i + 2 : Nat) : Int), .slice none 0 0] v fun e u' => ∃ r, e = .returned r ∧ ∃ G c, r = .slice (some ⟨G, 0, none⟩) (n.shrink i).kids.length c ∧ v.heap.size ≤ G ∧ (Lies u' (some ⟨G, 0, none⟩) (flatG (n.shrink i).kids) ∧ (n.shrink i).kids.length ≤ c) ∧ Below v.heap.size v u') := fun v hb => by
    have h3 := nSplG (flatG n.kids) (flatG []) a.ga none n.kids.length a.gc 0 0 (i + 1) (i + 2) v (h.below hb).kids (by simp [flatG]) (Lies.nil _ _) rfl (flatG_one _) (flatG_one _) h.cap.2.2 (by omega) (by omega) (by omega) (by decide)
    refine h3.mono ?_
    rintro e w' ⟨G, he, hG, hr, hb'⟩
    have hlen : (n.shrink i).kids.length = i + 1 + 0 + (n.kids.length - (i + 2)) := by
      simp only [Nd.shrink, List.length_append, List.length_take, List.length_drop]
      omega
    have hf : flatG (n.shrink i).kids = (flatG n.kids).take ((i + 1) * 1) ++ (flatG [] ++ (flatG n.kids).drop ((i + 2) * 1)) := by simp [flatG, Nd.shrink, List.map_take, List.map_drop]
    exact ⟨_, he, G, i + 1 + 0 + (n.kids.length - (i + 2)), by rw [hlen], hG, ⟨by rw [hf]; exact Lies.row hr, by rw [hlen]; exact Nat.le_refl _⟩, hb'⟩
  have HSH : Hid ((n.shrink i).leaf = false ∧ (n.shrink i).cells = []) := ⟨rfl, rfl⟩
  have HKD : Hid ((∀ k ∈ (n.shrink i).kids, k < 4294967296) ∧ (n.shrink i).keys.length ≤ 1992 ∧ (n.shrink i).kids.length ≤ 1993) := by
    refine ⟨fun k hk => ?_, ?_, ?_⟩
    · rcases List.mem_append.1 hk with hk | hk
      · exact h.kid k (List.mem_of_mem_take hk)
      · exact h.kid k (List.mem_of_mem_drop hk)
    · simp only [Nd.shrink, List.length_append, List.length_take, List.length_drop]; omega
    · simp only [Nd.shrink, List.length_append, List.length_take, List.length_drop]; omega
  have hii : (i : Int) < (n.keys.length : Int) := by omega
  have hil : (i : Int) ≤ 1992 := by omega
  clear h hok hle hkk hi
  obtain ⟨N, hN⟩ : ∃ N, N = u.heap.size := ⟨_, rfl⟩
  have HN := hide hN
  rw [← hN] at H1 H3 H4 ⊢
  clear hN
  rw [Nv.v_eq] at H1 ⊢
  rw [hc] at H1
  clear hc
  obtain ⟨ca, cc, ka, kc, ga, gc⟩ := a
  generalize n.shrink i = m at *
  generalize hk2 : m.keys.length = k2 at *
  generalize hg2 : m.kids.length = g2 at *
  have HK2 := hide hk2
  have HG2 := hide hg2
  clear hk2 hg2
  generalize n.cells.length = cn at *
  generalize n.keys.length = kn at *
  generalize n.kids.length = gn at *
  generalize n.leaf = lf at *
  have hc1 : ((i + 1 : Nat) : Int) = (i : Int) + 1 := by omega
  have hc2 : ((i + 2 : Nat) : Int) = (i : Int) + 2 := by omega
  go_enter Try.func48, Try.ntmps48
  go_wp2_with (first
    | ((with_reducible refine wpList_box_node (by rfl) (.tmp 0) (by rfl) (some 2) (by rfl) N (unhide HN) lf ca cn cc ka kn kc ga gn gc (by with_unfolding_all rfl) ?_); intro W0 HX0 HB0 HS0; simp only [Act.put, List.setIfInBounds_toArray, List.set_cons_zero, List.set_cons_succ])
    | ((with_reducible refine wpList_alloc_node (by rfl) (by rfl) (some 4) (by rfl) (N + 1) (unhide HS0).symm ?_); intro W1 HX1 HB1 HS1; simp only [Act.put, List.setIfInBounds_toArray, List.set_cons_zero, List.set_cons_succ]; have HX2 := hide (((unhide HB1).block N (Nat.lt_succ_self N)).trans (unhide HX0)); obtain ⟨y0, y1, y2, y3⟩ := box4 (unhide HX2))
    | fail)
  have HB2 : Hid (Below N u W1) := (unhide HB0).trans ((unhide HB1).mono (Nat.le_succ N))
  have HZ2 : Hid (N + 2 ≤ W1.heap.size) := by rw [unhide HS1]; exact Nat.le_refl _
  clear HX0 HB0 HS0 HB1 HS1
  refine (unhide H1 _ (unhide HB2)).mono ?_
  rintro e W3 ⟨rfl, hb3⟩
  have HB3 : Hid (Below N u W3) := (unhide HB2).trans (hb3.mono (by have := unhide HZ2; omega))
  have HX5 := hide (box_below (unhide HX2) hb3)
  have HX6 := hide (box_below (unhide HX1) hb3)
  clear hb3 y0 y1 y2 y3 HX2 HX1 HB2 HZ2
  obtain ⟨y0, y1, y2, y3⟩ := box4 (unhide HX5)
  go_wp2_with fail
  have hmix : Try.prog.follows .mixedOrders = true := by kernel_rfl
  have HR3 : Hid (W3.drew.heap[N + 1]? = some (.cells #[.bool false, .slice none 0 0, .slice none 0 0, .slice none 0 0] 26 (0, 0))) := unhide HX6
  refine wp_region_last (fun W => Below N u W ∧ W.heap[N]? = some (.cells #[.bool lf, .slice ca cn cc, .slice ka kn kc, .slice ga gn gc] 26 (0, 0))) 15 hmix ⟨belowDrewN (unhide HB3) 1, unhide HX5⟩ fun hS => ?_
  refine wpAnyL_take 0 23 (.pointer (some ⟨N, 2, none⟩)) [] rfl rfl (by kernel_rfl) (by kernel_rfl) (by kernel_rfl) (by kernel_rfl) (by kernel_rfl) (fun _ _ _ h => h) (by rfl) (fun u _ => by go_simp) hS ?_
  simp only [Act.put, List.setIfInBounds_toArray, List.set_cons_zero, List.set_cons_succ]
  refine wpAnyL_take 1 24 (.slice ka kn kc) [] rfl rfl (by kernel_rfl) (by kernel_rfl) (by kernel_rfl) (by kernel_rfl) (by kernel_rfl) (fun _ _ _ h => h) (by rfl) (fun W hW => by obtain ⟨x0, x1, x2, x3⟩ := box4 hW.2; go_simp) hS ?_
  simp only [Act.put, List.setIfInBounds_toArray, List.set_cons_zero, List.set_cons_succ]
  refine wpAnyL_take 2 25 (.int .i64 (i : Int)) [] rfl rfl (by kernel_rfl) (by kernel_rfl) (by kernel_rfl) (by kernel_rfl) (by kernel_rfl) (fun _ _ _ h => h) (by rfl) (fun u _ => by go_simp) hS ?_
  simp only [Act.put, List.setIfInBounds_toArray, List.set_cons_zero, List.set_cons_succ]
  refine wpAnyL_take 3 26 (.int .i64 (i : Int)) [] rfl rfl (by kernel_rfl) (by kernel_rfl) (by kernel_rfl) (by kernel_rfl) (by kernel_rfl) (fun _ _ _ h => h) (by rfl) (fun u _ => by go_simp) hS ?_
  simp only [Act.put, List.setIfInBounds_toArray, List.set_cons_zero, List.set_cons_succ]
  refine wpAnyL_take 4 27 (.int .i64 ((i + 1 : Nat) : Int)) [] rfl rfl (by kernel_rfl) (by kernel_rfl) (by kernel_rfl) (by kernel_rfl) (by kernel_rfl) (fun _ _ _ h => h) (by rfl) (fun W hW => by rw [hc1]; go_simp; rw [IntKind.wrap_i64]; omega) hS ?_
  simp only [Act.put, List.setIfInBounds_toArray, List.set_cons_zero, List.set_cons_succ]
  refine wpAnyL_take 6 29 (.pointer (some ⟨N, 3, none⟩)) [] rfl rfl (by kernel_rfl) (by kernel_rfl) (by kernel_rfl) (by kernel_rfl) (by kernel_rfl) (fun _ _ _ h => h) (by rfl) (fun u _ => by go_simp) hS ?_
  simp only [Act.put, List.setIfInBounds_toArray, List.set_cons_zero, List.set_cons_succ]
  refine wpAnyL_take 7 30 (.slice ga gn gc) [] rfl rfl (by kernel_rfl) (by kernel_rfl) (by kernel_rfl) (by kernel_rfl) (by kernel_rfl) (fun _ _ _ h => h) (by rfl) (fun W hW => by obtain ⟨x0, x1, x2, x3⟩ := box4 hW.2; go_simp) hS ?_
  simp only [Act.put, List.setIfInBounds_toArray, List.set_cons_zero, List.set_cons_succ]
  refine wpAnyL_take 8 31 (.int .i64 (i : Int)) [] rfl rfl (by kernel_rfl) (by kernel_rfl) (by kernel_rfl) (by kernel_rfl) (by kernel_rfl) (fun _ _ _ h => h) (by rfl) (fun u _ => by go_simp) hS ?_
  simp only [Act.put, List.setIfInBounds_toArray, List.set_cons_zero, List.set_cons_succ]
  refine wpAnyL_take 9 32 (.int .i64 ((i + 1 : Nat) : Int)) [] rfl rfl (by kernel_rfl) (by kernel_rfl) (by kernel_rfl) (by kernel_rfl) (by kernel_rfl) (fun _ _ _ h => h) (by rfl) (fun W hW => by rw [hc1]; go_simp; rw [IntKind.wrap_i64]; omega) hS ?_
  simp only [Act.put, List.setIfInBounds_toArray, List.set_cons_zero, List.set_cons_succ]
  refine wpAnyL_take 10 33 (.int .i64 (i : Int)) [] rfl rfl (by kernel_rfl) (by kernel_rfl) (by kernel_rfl) (by kernel_rfl) (by kernel_rfl) (fun _ _ _ h => h) (by rfl) (fun u _ => by go_simp) hS ?_
  simp only [Act.put, List.setIfInBounds_toArray, List.set_cons_zero, List.set_cons_succ]
  refine wpAnyL_take 11 34 (.int .i64 ((i + 2 : Nat) : Int)) [] rfl rfl (by kernel_rfl) (by kernel_rfl) (by kernel_rfl) (by kernel_rfl) (by kernel_rfl) (fun _ _ _ h => h) (by rfl) (fun W hW => by rw [hc2]; go_simp; rw [IntKind.wrap_i64]; omega) hS ?_
  simp only [Act.put, List.setIfInBounds_toArray, List.set_cons_zero, List.set_cons_succ]
  refine wpAnyL_one (i := 5) (by kernel_rfl) rfl (by rfl) fun K hK => ?_
  refine wp_call_fn 91 _ _ (by rfl) #[.slice ka kn kc, .int .i64 (i : Int), .int .i64 ((i + 1 : Nat) : Int), .slice none 0 0] (by with_unfolding_all rfl) entK (some 28) (by rfl) _ (unhide H3 _ hS.1) ?_
  rintro _ W4 ⟨G, c4, rfl, hG, hl4, hb4⟩
  have HS4 : Hid (Below N u W4 ∧ W4.heap[N]? = some (.cells #[.bool lf, .slice ca cn cc, .slice ka kn kc, .slice ga gn gc] 26 (0, 0))) := ⟨hS.1.trans (hb4.mono (by have := (Array.getElem?_eq_some_iff.1 (unhide HR3)).1; omega)), box_below hS.2 hb4⟩
  have HR4 := hide (box_below (unhide HR3) hb4)
  have HF4 : Hid (N + 2 ≤ G) := by have h1 := (Array.getElem?_eq_some_iff.1 (unhide HR3)).1; have : N + 2 ≤ G := by omega
                                   exact this
  have HL4 := hide hl4
  refine hK _ _ (fun _ => unhide HS4) ?_
  clear hK K hS hG hl4 hb4
  have hS := unhide HS4
  simp only [Act.put, List.setIfInBounds_toArray, List.set_cons_zero, List.set_cons_succ]
  refine wpAnyL_one (i := 12) (by kernel_rfl) rfl (by rfl) fun K hK => ?_
  refine wp_call_fn 92 _ _ (by rfl) #[.slice ga gn gc, .int .i64 ((i + 1 : Nat) : Int), .int .i64 ((i + 2 : Nat) : Int), .slice none 0 0] (by with_unfolding_all rfl) entG (some 35) (by rfl) _ (unhide H4 _ hS.1) ?_
  rintro _ W5 ⟨G2, c5, rfl, hG, hl5, hb5⟩
  have HS5 : Hid (Below N u W5 ∧ W5.heap[N]? = some (.cells #[.bool lf, .slice ca cn cc, .slice ka kn kc, .slice ga gn gc] 26 (0, 0))) := ⟨hS.1.trans (hb5.mono (by have := (Array.getElem?_eq_some_iff.1 (unhide HR4)).1; omega)), box_below hS.2 hb5⟩
  have HR5 := hide (box_below (unhide HR4) hb5)
  have HF5 : Hid (N + 2 ≤ G2) := by have h1 := (Array.getElem?_eq_some_iff.1 (unhide HR4)).1; have : N + 2 ≤ G2 := by omega
                                    exact this
  have HL5 := hide hl5
  have HL4' := hide ((unhide HL4).1.below hb5)
  refine hK _ _ (fun _ => unhide HS5) ?_
  clear hK K hS hG hl5 hb5 HS4
  have hS := unhide HS5
  simp only [Act.put, List.setIfInBounds_toArray, List.set_cons_zero, List.set_cons_succ]
  refine wpAnyL_one (i := 13) (by kernel_rfl) rfl (by rfl) fun K hK => ?_
  refine wp_val (.agg #[.bool false, .slice none 0 0, .slice (some ⟨G, 0, none⟩) k2 c4, .slice (some ⟨G2, 0, none⟩) g2 c5]) (by go_simp) (some 36) (by rfl) ?_
  refine hK _ _ (fun _ => hS) ?_
  clear hK K
  simp only [Act.put, List.setIfInBounds_toArray, List.set_cons_zero, List.set_cons_succ]
  refine wpAnyL_one (i := 14) (by kernel_rfl) rfl (by rfl) fun K hK => ?_
  refine wp_store_row 26 (.tmp 4) (.tmp 36) (by rfl) (N + 1) #[.bool false, .slice none 0 0, .slice (some ⟨G, 0, none⟩) k2 c4, .slice (some ⟨G2, 0, none⟩) g2 c5] (by rfl) (by rfl) 26 _ (unhide HR5) nodeInfo rfl (node_one _ _ _ _ _ _ _ _ _ _) ?_
  obtain ⟨W8, HE8⟩ : ∃ W8, W8 = W5.setRow (N + 1) #[.bool false, .slice none 0 0, .slice (some ⟨G, 0, none⟩) k2 c4, .slice (some ⟨G2, 0, none⟩) g2 c5] := ⟨_, rfl⟩
  have HX8 : Hid (W8.heap[N + 1]? = some (.cells #[.bool false, .slice none 0 0, .slice (some ⟨G, 0, none⟩) k2 c4, .slice (some ⟨G2, 0, none⟩) g2 c5] 26 (0, 0))) := by rw [HE8]; exact heapRow_same (unhide HR5) _
  have HZ : Hid (Below N u W8 ∧ Lies W8 (some ⟨G, 0, none⟩) (flatK m.keys) ∧ Lies W8 (some ⟨G2, 0, none⟩) (flatG m.kids)) := by
    rw [HE8]
    exact ⟨belowRow hS.1 (Nat.le_succ N) _, (unhide HL4').setRow (N + 1) _ (fun b o e => by cases e; have := unhide HF4; omega), (unhide HL5).1.setRow (N + 1) _ (fun b o e => by cases e; have := unhide HF5; omega)⟩
  rw [← HE8]
  refine hK _ _ (fun _ => ⟨(unhide HZ).1, by rw [HE8]; exact (heapRow_other _ _ _ _ (by omega)).trans hS.2⟩) ?_
  clear hK K hS HE8 HR5 HR4 HS5
  simp only [Act.put, List.setIfInBounds_toArray]
  refine wpAnyL_one (i := 15) (by kernel_rfl) rfl (by rfl) fun K hK => ?_
  refine wp_val (.int .i64 0) (by go_simp) (some 5) (by rfl) ?_
  refine hK _ _ (fun h => absurd rfl h) ?_
  clear hK K
  simp only [Act.put]
  refine wpAnyL_done (by kernel_rfl) ?_ _
  go_wp2
  refine bodyPost_ret (results_cell_tmp rfl _ _ (N + 1) 26 #[.bool false, .slice none 0 0, .slice (some ⟨G, 0, none⟩) k2 c4, .slice (some ⟨G2, 0, none⟩) g2 c5] (0, 0) _ rfl (unhide HX8) nodeUnd rfl nodeInfo) rfl ?_
  refine ⟨⟨none, 0, some ⟨G, 0, none⟩, c4, some ⟨G2, 0, none⟩, c5⟩, ?_, ⟨?_, (unhide HZ).2.1, (unhide HZ).2.2, (unhide HKD).1, ?_, ?_, ?_⟩, (unhide HZ).1⟩
  · rw [Nv.v_eq, (unhide HSH).1, (unhide HSH).2, unhide HK2, unhide HG2]; rfl
  · rw [(unhide HSH).2]; exact Lies.nil _ _
  · have := (unhide HKD).2
    rw [(unhide HSH).2, unhide HK2, unhide HG2]
    exact ⟨by simp, by omega, by omega⟩
  · rw [(unhide HSH).2]; intro c hc; cases hc
  · rw [(unhide HSH).2, unhide HK2, unhide HG2]
    exact ⟨Nat.le_refl _, (unhide HL4).2, (unhide HL5).2⟩
end Go.Proofs.Ytppmpomfihalfaa
