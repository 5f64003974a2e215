/- Segments: the closure that SegmentMerges hands to Merge. Written by mkshl.py. -/
import Derived.Test.YtbahlfpcbplofaaShj
import Derived.Deep.DeepCutAuto
namespace Go.Proofs.Ytbahlfpcbplofaa.S
open Go.RowKit Go.Lib
/- laws: a store into a part of a block -/
theorem there_at {w : World} {g k n : Nat} {cs : Array Value} {t : TypeId} (hg : w.heap[g]? = some (.cells cs t (0, 0))) (hk : k + n ≤ cs.size) : w.there g k n := fun j hj => by
  refine ⟨?_, by simp [World.frozen?, hg]⟩
  have h1 : w.cell? ⟨g, k + j, none⟩ = cs[k + j]? := by simp [World.cell?, hg]
  rw [h1, Array.getElem?_eq_getElem (by omega)]
  rfl
theorem St1.at (w : World) (b k : Nat) {cs : Array Value} {v : Value} {t : TypeId} (hg : w.heap[b]? = some (.cells cs t (0, 0))) : St1 w (w.setCell ⟨b, k, none⟩ v) b (.cells (cs.setIfInBounds k v) t (0, 0)) :=
  ⟨D.heapCell_same hg k v, by simp [World.setCell], fun j hj => Below.heap_setCell w ⟨b, k, none⟩ v j hj, rfl, rfl, rfl⟩
theorem St1.two {w w1 w2 : World} {b : Nat} {o o' : Obj} (h : St1 w w1 b o) (k : St1 w1 w2 b o') : St1 w w2 b o' :=
  ⟨k.new, k.size.trans h.size, fun j hj => (k.other j hj).trans (h.other j hj), k.os.trans h.os, k.tape.trans h.tape, k.output.trans h.output⟩
theorem wpList_store_ci {P : Program} {ops : Array Oper} {rest : List Oper} {o : Oper} {a : Act} {w : World} {Q : Exit → Act → World → Prop} (hgd : o.guard = none) (ty : TypeId) (x y : Operand) (ho : o.op = .store ty x y) (hd : o.dst = none) (g k : Nat) (kd : IntKind) (z : Int) (hx : a.eval x = .pointer (some ⟨g, k, none⟩)) (hy : a.eval y = .int kd z)
    (cs : Array Value) (t : TypeId) (hg : w.heap[g]? = some (.cells cs t (0, 0))) (hk : k + 1 ≤ cs.size) (hi : (P.info? ty).map (·.size) = some 1) (cs' : Array Value) (hcs : cs.setIfInBounds k (.int kd z) = cs')
    (h : ∀ w', Hid (St1 w w' g (.cells cs' t (0, 0))) → wpList P ops Q rest a w') : wpList P ops Q (o :: rest) a w := by
  subst hcs
  have h1 : (storeVar ty ⟨g, k, none⟩ (.int kd z)).run P w = .ok () (w.setCells g k [.int kd z]) := run_storeVar_mid (P := P) w g k ty #[.int kd z] (there_at hg hk) hi (by simp [Value.oneCell'])
  refine wpList_plain hgd fun K hK => ?_
  unfold Oper.wp execOp
  simp only [ho, hx, hy, Instr.storeAt, Instr.sureAddr, Sem.run_bind, Sem.run_pure, Result.andThen_ok, h1]
  exact (show K (a.put o.dst undef) _ by rw [hd]; exact hK _ _ (h _ (St1.at w g k hg)))
theorem wpList_store_cb {P : Program} {ops : Array Oper} {rest : List Oper} {o : Oper} {a : Act} {w : World} {Q : Exit → Act → World → Prop} (hgd : o.guard = none) (ty : TypeId) (x y : Operand) (ho : o.op = .store ty x y) (hd : o.dst = none) (g : Nat) (z : Bool) (hx : a.eval x = .pointer (some ⟨g, 0, none⟩)) (hy : a.eval y = .bool z)
    (v : Value) (t : TypeId) (hg : w.heap[g]? = some (.cells #[v] t (0, 0))) (hi : (P.info? ty).map (·.size) = some 1)
    (h : ∀ w', Hid (St1 w w' g (.cells #[.bool z] t (0, 0))) → wpList P ops Q rest a w') : wpList P ops Q (o :: rest) a w := by
  have h1 : (storeVar ty ⟨g, 0, none⟩ (.bool z)).run P w = .ok () (w.setCells g 0 [.bool z]) := run_storeVar_mid (P := P) w g 0 ty #[.bool z] (there_box hg) hi (by simp [Value.oneCell'])
  refine wpList_plain hgd fun K hK => ?_
  unfold Oper.wp execOp
  simp only [ho, hx, hy, Instr.storeAt, Instr.sureAddr, Sem.run_bind, Sem.run_pure, Result.andThen_ok, h1]
  exact (show K (a.put o.dst undef) _ by rw [hd]; exact hK _ _ (h _ (St1.at w g 0 hg)))
theorem wpList_store_csl {P : Program} {ops : Array Oper} {rest : List Oper} {o : Oper} {a : Act} {w : World} {Q : Exit → Act → World → Prop} (hgd : o.guard = none) (ty : TypeId) (x y : Operand) (ho : o.op = .store ty x y) (hd : o.dst = none) (g : Nat) (ao : Option Addr) (n c : Nat) (hx : a.eval x = .pointer (some ⟨g, 0, none⟩)) (hy : a.eval y = .slice ao n c)
    (v : Value) (t : TypeId) (hg : w.heap[g]? = some (.cells #[v] t (0, 0))) (hi : (P.info? ty).map (·.size) = some 1)
    (h : wpList P ops Q rest a (w.setCell ⟨g, 0, none⟩ (.slice ao n c))) : wpList P ops Q (o :: rest) a w := by
  have h1 : (storeVar ty ⟨g, 0, none⟩ (.slice ao n c)).run P w = .ok () (w.setCells g 0 [.slice ao n c]) := run_storeVar_mid (P := P) w g 0 ty #[.slice ao n c] (there_box hg) hi (by simp [Value.oneCell'])
  refine wpList_plain hgd fun K hK => ?_
  unfold Oper.wp execOp
  simp only [ho, hx, hy, Instr.storeAt, Instr.sureAddr, Sem.run_bind, Sem.run_pure, Result.andThen_ok, h1]
  exact (show K (a.put o.dst undef) _ by rw [hd]; exact hK _ _ h)
theorem wpList_store_c2 {P : Program} {ops : Array Oper} {rest : List Oper} {o : Oper} {a : Act} {w : World} {Q : Exit → Act → World → Prop} (hgd : o.guard = none) (ty : TypeId) (x y : Operand) (ho : o.op = .store ty x y) (hd : o.dst = none) (g k : Nat) (s : ByteArray) (z : Int) (hx : a.eval x = .pointer (some ⟨g, k, none⟩)) (hy : a.eval y = .agg #[.string s, .int .i64 z])
    (cs : Array Value) (t : TypeId) (hg : w.heap[g]? = some (.cells cs t (0, 0))) (hk : k + 2 ≤ cs.size) (hi : (P.info? ty).map (·.size) = some 2) (cs' : Array Value) (hcs : (cs.setIfInBounds k (.string s)).setIfInBounds (k + 1) (.int .i64 z) = cs')
    (h : ∀ w', Hid (St1 w w' g (.cells cs' t (0, 0))) → wpList P ops Q rest a w') : wpList P ops Q (o :: rest) a w := by
  subst hcs
  have h1 : (storeVar ty ⟨g, k, none⟩ (.agg #[.string s, .int .i64 z])).run P w = .ok () (w.setCells g k [.string s, .int .i64 z]) := run_storeVar_mid (P := P) w g k ty #[.string s, .int .i64 z] (there_at hg hk) hi (it_one s z)
  refine wpList_plain hgd fun K hK => ?_
  unfold Oper.wp execOp
  simp only [ho, hx, hy, Instr.storeAt, Instr.sureAddr, Sem.run_bind, Sem.run_pure, Result.andThen_ok, h1]
  have h2 := (St1.at w g k hg (v := .string s))
  exact (show K (a.put o.dst undef) _ by rw [hd]; exact hK _ _ (h _ (h2.two (St1.at _ g (k + 1) h2.new))))
theorem St1.keep {w w' : World} {b j : Nat} {o o' : Obj} (h : St1 w w' b o) (hj : w.heap[j]? = some o') (hne : j ≠ b) : w'.heap[j]? = some o' := (h.other j hne).trans hj
theorem toInfo : (Try.prog.info? 63).map (·.size) = some 5 := by kernel_rfl
theorem zeroTo : ((Try.prog.info? 63).bind (·.zero)).map (·.cells) = some #[.string ⟨#[]⟩, .int .i64 0, .string ⟨#[]⟩, .int .i64 0, .int .u8 0] := by kernel_rfl
theorem to_one (k : ByteArray) (h : Int) (xk : ByteArray) (xn y : Int) : (#[.string k, .int .i64 h, .string xk, .int .i64 xn, .int .u8 y] : Array Value).all (·.oneCell') = true := by
  rw [Array.all_eq_true']
  intro v hv
  simp only [List.mem_toArray, List.mem_cons, List.not_mem_nil, or_false] at hv
  rcases hv with rfl | rfl | rfl | rfl | rfl <;> rfl
theorem wpList_store_to {ops : Array Oper} {rest : List Oper} {o : Oper} {a : Act} {w : World} {Q : Exit → Act → World → Prop} (hgd : o.guard = none) (x y : Operand) (ho : o.op = .store 63 x y) (g : Nat) (k : ByteArray) (h' : Int) (xk : ByteArray) (xn yv : Int) (hx : a.eval x = .pointer (some ⟨g, 0, none⟩)) (hy : a.eval y = .agg #[.string k, .int .i64 h', .string xk, .int .i64 xn, .int .u8 yv])
    (k0 : ByteArray) (h0 : Int) (xk0 : ByteArray) (xn0 y0 : Int) (hg : w.heap[g]? = some (.cells #[.string k0, .int .i64 h0, .string xk0, .int .i64 xn0, .int .u8 y0] 63 (0, 0)))
    (h : ∀ w', Hid (w'.heap[g]? = some (.cells #[.string k, .int .i64 h', .string xk, .int .i64 xn, .int .u8 yv] 63 (0, 0))) → Hid (w' = w.setRow g #[.string k, .int .i64 h', .string xk, .int .i64 xn, .int .u8 yv]) → wpList Try.prog ops Q rest (a.put o.dst undef) w') : wpList Try.prog ops Q (o :: rest) a w :=
  wpList_store_hid hgd _ x y ho g _ hx hy _ _ hg toInfo rfl (to_one _ _ _ _ _) h
theorem intInfo : (Try.prog.info? 3).map (·.size) = some 1 := by kernel_rfl
theorem boolInfo : (Try.prog.info? 4).map (·.size) = some 1 := by kernel_rfl
theorem tosInfo : (Try.prog.info? 53).map (·.size) = some 1 := by kernel_rfl
theorem row5 {W : World} {N : Nat} {c0 c1 c2 c3 c4 : Value} {t : TypeId} (h : W.heap[N]? = some (.cells #[c0, c1, c2, c3, c4] t (0, 0))) : W.cell? ⟨N, 0, none⟩ = some c0 ∧ W.cell? ⟨N, 1, none⟩ = some c1 ∧ W.cell? ⟨N, 2, none⟩ = some c2 ∧ W.cell? ⟨N, 3, none⟩ = some c3 ∧ W.cell? ⟨N, 4, none⟩ = some c4 := by
  refine ⟨?_, ?_, ?_, ?_, ?_⟩ <;> simp [World.cell?, h]
/-- what the closure's variables hold -/
def CE (W : World) (go rb : Nat) (l : List To) (r : Bool) : Prop := ∃ xo gn gc, RT.Var W go l xo gn gc ∧ W.heap[rb]? = some (.cells #[.bool r] 4 (0, 0)) ∧ ∀ ad : Addr, xo = some ad → ad.block ≠ rb
abbrev spW : ByteArray := ⟨#[115, 112, 111, 105, 108, 116]⟩
set_option maxRecDepth 100000 in
set_option maxHeartbeats 4000000 in
theorem cEachX (key : ByteArray) (bx : Nat) (xk : ByteArray) (xn : Int) (V W : World) (go wb rb : Nat) (gl : List To) (xo : Option Addr) (gn gc : Nat) (wo : Option Addr) (wk wc : Nat) (hV : RT.Var V go gl xo gn gc) (hwb : V.heap[wb]? = some (.cells #[.slice wo wk wc] 53 (0, 0))) (hrb : V.heap[rb]? = some (.cells #[.bool true] 4 (0, 0))) (hgr : go < rb) (hxr : ∀ ad : Addr, xo = some ad → ad.block ≠ rb) (hVW : Below V.heap.size V W) (hbx : V.heap.size ≤ bx) (hX : W.heap[bx]? = some (.cells #[.string xk, .int .i64 xn] 57 (0, 0))) (hlen : gl.length ≤ wk) (hwk : wk ≤ 4398046511) :
    Calls Try.prog 44 (#[.string key, .pointer (some ⟨bx, 0, none⟩), .pointer none] ++ #[.pointer (some ⟨go, 0, none⟩), .pointer (some ⟨wb, 0, none⟩), .pointer (some ⟨rb, 0, none⟩)]) W fun e W' => e = .returned (.tuple #[]) ∧ CE W' go rb (gl ++ [((key, 1, (xk, xn), 0) : To)]) true ∧ Below go W W' := by
  show Calls Try.prog 44 #[.string key, .pointer (some ⟨bx, 0, none⟩), .pointer none, .pointer (some ⟨go, 0, none⟩), .pointer (some ⟨wb, 0, none⟩), .pointer (some ⟨rb, 0, none⟩)] W _
  have HV := hide hV
  have HWB := hide hwb
  have HRB := hide hrb
  have HGR := hide hgr
  have HXR := hide hxr
  have HVW := hide hVW
  have HGO : Hid (go + 1 ≤ V.heap.size) := hV.lt
  have HGN := hide hV.hn
  have HLN := hide hlen
  have hgni : (gn : Int) ≤ (wk : Int) := by have := hV.hn; omega
  have hwki : (wk : Int) ≤ 4398046511 := by omega
  have HWK := hide hwk
  obtain ⟨N, hN⟩ : ∃ N, N = W.heap.size := ⟨_, rfl⟩
  have HN := hide hN
  have HVN : Hid (V.heap.size ≤ N) := by rw [hN]; exact hVW.size
  have HX := hide hX
  have HBX := hide hbx
  have HXN : Hid (bx ≠ N) := by
    have := (Array.getElem?_eq_some_iff.1 hX).1
    show bx ≠ N; omega
  clear hV hwb hrb hgr hxr hVW hlen hwk hN hX hbx
  go_enter Try.func44, Try.ntmps44
  go_upto_region 9 with (first
    | ((with_reducible refine wpList_alloc_row (by rfl) 63 (by rfl) (some 9) (by rfl) N (unhide HN).symm #[.string ⟨#[]⟩, .int .i64 0, .string ⟨#[]⟩, .int .i64 0, .int .u8 0] zeroTo ?_); intro W1 HN1 HB1 HS1; simp only [Act.put, List.setIfInBounds_toArray, List.set_cons_zero, List.set_cons_succ]; have HX1 := hide (((unhide HB1).block bx (by have := (Array.getElem?_eq_some_iff.1 (unhide HX)).1; have := unhide HXN; have e1 := unhide HN; omega)).trans (unhide HX)); clear HN)
    | ((with_reducible refine wpList_store_to (by rfl) (.tmp 9) (.tmp 11) (by rfl) N key 0 ⟨#[]⟩ 0 0 (by with_unfolding_all rfl) (by with_unfolding_all rfl) ⟨#[]⟩ 0 ⟨#[]⟩ 0 0 (unhide HN1) ?_); intro W2 HN2 HE2; simp only [Act.put]; have hs2 : St1 W1 W2 N (.cells #[.string key, .int .i64 0, .string ⟨#[]⟩, .int .i64 0, .int .u8 0] 63 (0, 0)) := (by rw [unhide HE2]; exact St1.row W1 N (unhide HN1) _); have HF2 : Hid (Below V.heap.size V W2) := hs2.below ((unhide HVW).trans ((unhide HB1).mono (unhide HVN))) (unhide HVN); have HG2 : Hid (Below V.heap.size W W2) := hs2.below ((unhide HB1).mono (unhide HVN)) (unhide HVN); have HX2 := hide (hs2.keep (unhide HX1) (unhide HXN)); obtain ⟨n0, n1, n2, n3, n4⟩ := row5 (unhide HN2); obtain ⟨x0, x1⟩ := box2 (unhide HX2); clear hs2 HE2)
    | ((with_reducible refine wpList_store_ci (by rfl) 3 (.tmp 14) (.const (.int .i64 1)) (by rfl) (by rfl) N 1 .i64 1 (by with_unfolding_all rfl) (by with_unfolding_all rfl) #[.string key, .int .i64 0, .string ⟨#[]⟩, .int .i64 0, .int .u8 0] 63 (unhide HN2) (by simp) intInfo #[.string key, .int .i64 1, .string ⟨#[]⟩, .int .i64 0, .int .u8 0] (by with_unfolding_all rfl) ?_); intro W3 hs; replace hs := unhide hs; have HF3 : Hid (Below V.heap.size V W3) := hs.below (unhide HF2) (unhide HVN); have HG3 : Hid (Below V.heap.size W W3) := hs.below (unhide HG2) (unhide HVN); have HN3 := hide hs.new; have HX3 := hide (hs.keep (unhide HX2) (unhide HXN)); obtain ⟨n0, n1, n2, n3, n4⟩ := row5 (unhide HN3); obtain ⟨x0, x1⟩ := box2 (unhide HX3); have g0 := cell_one ((unhide HV).below (unhide HF3)).box; have w0 := cell_one (box_below (unhide HWB) (unhide HF3)); clear hs HF2 HG2 HN2 HX2)
    | ((with_reducible refine wpList_store_c2 (by rfl) 57 (.tmp 18) (.tmp 17) (by rfl) (by rfl) N 2 xk xn (by with_unfolding_all rfl) (by with_unfolding_all rfl) #[.string key, .int .i64 1, .string ⟨#[]⟩, .int .i64 0, .int .u8 0] 63 (unhide HN3) (by simp) itInfo #[.string key, .int .i64 1, .string xk, .int .i64 xn, .int .u8 0] (by with_unfolding_all rfl) ?_); intro W4 hs; replace hs := unhide hs; have HF4 : Hid (Below V.heap.size V W4) := hs.below (unhide HF3) (unhide HVN); have HG4 : Hid (Below V.heap.size W W4) := hs.below (unhide HG3) (unhide HVN); have HN4 := hide hs.new; have HX4 := hide (hs.keep (unhide HX3) (unhide HXN)); obtain ⟨n0, n1, n2, n3, n4⟩ := row5 (unhide HN4); obtain ⟨x0, x1⟩ := box2 (unhide HX4); have g0 := cell_one ((unhide HV).below (unhide HF4)).box; have w0 := cell_one (box_below (unhide HWB) (unhide HF4)); clear hs HF3 HG3 HN3 HX3)
    | ((with_reducible refine wpList_store_c2 (by rfl) 57 (.tmp 21) (.tmp 20) (by rfl) (by rfl) bx 0 spW 0 (by with_unfolding_all rfl) (by with_unfolding_all rfl) #[.string xk, .int .i64 xn] 57 (unhide HX4) (by simp) itInfo #[.string spW, .int .i64 0] (by with_unfolding_all rfl) ?_); intro W5 hs; replace hs := unhide hs; have HF5 : Hid (Below V.heap.size V W5) := hs.below (unhide HF4) (unhide HBX); have HG5 : Hid (Below V.heap.size W W5) := hs.below (unhide HG4) (unhide HBX); have HN5 := hide (hs.keep (unhide HN4) (fun e => unhide HXN e.symm)); have HX5 := hide hs.new; obtain ⟨n0, n1, n2, n3, n4⟩ := row5 (unhide HN5); obtain ⟨x0, x1⟩ := box2 (unhide HX5); have g0 := cell_one ((unhide HV).below (unhide HF5)).box; have w0 := cell_one (box_below (unhide HWB) (unhide HF5)); clear hs HF4 HG4 HN4 HX4)
    | fail)
  have HVA : Hid (RT.Var (W5.alloc (.cells #[.string key, .int .i64 1, .string xk, .int .i64 xn, .int .u8 0] 63)) go gl xo gn gc) := (unhide HV).below ((unhide HF5).alloc (unhide HF5).size _)
  have HAA : Hid (RT.At (W5.alloc (.cells #[.string key, .int .i64 1, .string xk, .int .i64 xn, .int .u8 0] 63)) [((key, 1, (xk, xn), 0) : To)] (some ⟨W5.heap.size, 0, none⟩) 1) := RT.one W5 key 1 xk xn 0 _
  have HLL : Hid ((gl.length + [((key, 1, (xk, xn), 0) : To)].length) * 56 ≤ 140737488355328) := by
    have h1 := unhide HLN
    have h2 := unhide HWK
    show (gl.length + 1) * 56 ≤ _; omega
  have HSA : Hid (go + 1 ≤ (W5.alloc (.cells #[.string key, .int .i64 1, .string xk, .int .i64 xn, .int .u8 0] 63)).heap.size) := (unhide HVA).lt
  have hcmp : ¬ (gn : Int) > (wk : Int) := by omega
  have hcmp2 : (gn : Int) ≤ (wk : Int) := by omega
  obtain ⟨n0, n1, n2, n3, n4⟩ := row5 (unhide HN5)
  have g0 := cell_one ((unhide HV).below (unhide HF5)).box
  have w0 := cell_one (box_below (unhide HWB) (unhide HF5))
  go_wp2_with (first
    | (at_builtin; (with_reducible refine wpList_putT (by rfl) (.tmp 39) (.tmp 41) (by rfl) (some 42) (by rfl) (go + 1) gl [((key, 1, (xk, xn), 0) : To)] gn 1 (unhide HGN) rfl xo (some ⟨W5.heap.size, 0, none⟩) gc 1 (by with_unfolding_all rfl) (by with_unfolding_all rfl) (unhide HVA).own (unhide HAA) (unhide HLL) (unhide HSA) ?_); intro x4 n4 c4 W20 HP4; simp only [Act.put, List.setIfInBounds_toArray, List.set_cons_zero, List.set_cons_succ]; have hpv := (unhide HVA).put (unhide HP4); have HB20 := hide hpv.1; have HV20 := hide hpv.2; clear hpv)
    | ((with_reducible refine wpList_store_csl (by rfl) 53 (.tmp 3) (.tmp 42) (by rfl) (by rfl) go x4 n4 c4 (by with_unfolding_all rfl) (by with_unfolding_all rfl) _ _ (unhide HB20) tosInfo ?_))
    | fail)
  go_returns
  have hnr : ∀ ad : Addr, x4 = some ad → ad.block ≠ rb := fun ad e hh => by
    obtain ⟨g, rfl⟩ := own_addr (unhide HP4).own ad e
    have hrl : rb < V.heap.size := (Array.getElem?_eq_some_iff.1 (unhide HRB)).1
    rcases (unhide HP4).new g 0 e with ⟨o', h⟩ | h
    · exact unhide HXR ⟨g, o', none⟩ h hh
    · have h1 := (unhide HF5).size
      have h2 := szNew W5 (.cells #[.string key, .int .i64 1, .string xk, .int .i64 xn, .int .u8 0] 63)
      have h3 : g = rb := hh
      omega
  have hgo : go ≤ V.heap.size := Nat.le_of_succ_le (unhide HGO)
  refine ⟨rfl, ⟨x4, n4, c4, unhide HV20, ?_, hnr⟩, ?_⟩
  · obtain ⟨_, _, _, _, g5⟩ := (unhide HP4).grown
    have hrl : rb < V.heap.size := (Array.getElem?_eq_some_iff.1 (unhide HRB)).1
    have hrw : (W5.alloc (.cells #[.string key, .int .i64 1, .string xk, .int .i64 xn, .int .u8 0] 63)).heap[rb]? = some (.cells #[.bool true] 4 (0, 0)) := box_below (unhide HRB) ((unhide HF5).alloc (unhide HF5).size _)
    refine (Below.heap_setCell W20 ⟨go, 0, none⟩ _ rb (fun e => by have := unhide HGR; have e : rb = go := e; omega)).trans ((g5 rb (Array.getElem?_eq_some_iff.1 hrw).1 fun e => ?_).trans hrw)
    cases xo with
    | none => cases e
    | some ad => exact unhide HXR ad rfl (Option.some.inj e).symm
  · have hb1 : Below V.heap.size W (W5.alloc (.cells #[.string key, .int .i64 1, .string xk, .int .i64 xn, .int .u8 0] 63)) := (unhide HG5).alloc (Nat.le_trans (unhide HF5).size (Nat.le_refl _)) _
    exact D.belowCell ((hb1.mono hgo).trans ((unhide HP4).below.mono (Nat.le_succ _))) (p := ⟨go, 0, none⟩) (Nat.le_refl _) _
set_option maxRecDepth 100000 in
set_option maxHeartbeats 4000000 in
theorem cEachXN (key : ByteArray) (bx : Nat) (xk : ByteArray) (xn : Int) (V W : World) (go wb rb : Nat) (gl : List To) (xo : Option Addr) (gn gc : Nat) (wo : Option Addr) (wk wc : Nat) (r : Bool) (hV : RT.Var V go gl xo gn gc) (hwb : V.heap[wb]? = some (.cells #[.slice wo wk wc] 53 (0, 0))) (hrb : V.heap[rb]? = some (.cells #[.bool r] 4 (0, 0))) (hgr : go < rb) (hxr : ∀ ad : Addr, xo = some ad → ad.block ≠ rb) (hVW : Below V.heap.size V W) (hbx : V.heap.size ≤ bx) (hX : W.heap[bx]? = some (.cells #[.string xk, .int .i64 xn] 57 (0, 0))) (hlen : gl.length = wk + 1) (hwk : wk ≤ 4398046511) :
    Calls Try.prog 44 (#[.string key, .pointer (some ⟨bx, 0, none⟩), .pointer none] ++ #[.pointer (some ⟨go, 0, none⟩), .pointer (some ⟨wb, 0, none⟩), .pointer (some ⟨rb, 0, none⟩)]) W fun e W' => e = .returned (.tuple #[]) ∧ CE W' go rb gl false ∧ Below go W W' := by
  show Calls Try.prog 44 #[.string key, .pointer (some ⟨bx, 0, none⟩), .pointer none, .pointer (some ⟨go, 0, none⟩), .pointer (some ⟨wb, 0, none⟩), .pointer (some ⟨rb, 0, none⟩)] W _
  have HV := hide hV
  have HWB := hide hwb
  have HRB := hide hrb
  have HGR := hide hgr
  have HXR := hide hxr
  have HVW := hide hVW
  have HGO : Hid (go + 1 ≤ V.heap.size) := hV.lt
  have HGN := hide hV.hn
  have HLN := hide hlen
  have hgni : (gn : Int) = (wk : Int) + 1 := by have := hV.hn; omega
  have hwki : (wk : Int) ≤ 4398046511 := by omega
  have HWK := hide hwk
  obtain ⟨N, hN⟩ : ∃ N, N = W.heap.size := ⟨_, rfl⟩
  have HN := hide hN
  have HVN : Hid (V.heap.size ≤ N) := by rw [hN]; exact hVW.size
  have HX := hide hX
  have HBX := hide hbx
  have HXN : Hid (bx ≠ N) := by
    have := (Array.getElem?_eq_some_iff.1 hX).1
    show bx ≠ N; omega
  clear hV hwb hrb hgr hxr hVW hlen hwk hN hX hbx
  go_enter Try.func44, Try.ntmps44
  go_upto_region 9 with (first
    | ((with_reducible refine wpList_alloc_row (by rfl) 63 (by rfl) (some 9) (by rfl) N (unhide HN).symm #[.string ⟨#[]⟩, .int .i64 0, .string ⟨#[]⟩, .int .i64 0, .int .u8 0] zeroTo ?_); intro W1 HN1 HB1 HS1; simp only [Act.put, List.setIfInBounds_toArray, List.set_cons_zero, List.set_cons_succ]; have HX1 := hide (((unhide HB1).block bx (by have := (Array.getElem?_eq_some_iff.1 (unhide HX)).1; have := unhide HXN; have e1 := unhide HN; omega)).trans (unhide HX)); clear HN)
    | ((with_reducible refine wpList_store_to (by rfl) (.tmp 9) (.tmp 11) (by rfl) N key 0 ⟨#[]⟩ 0 0 (by with_unfolding_all rfl) (by with_unfolding_all rfl) ⟨#[]⟩ 0 ⟨#[]⟩ 0 0 (unhide HN1) ?_); intro W2 HN2 HE2; simp only [Act.put]; have hs2 : St1 W1 W2 N (.cells #[.string key, .int .i64 0, .string ⟨#[]⟩, .int .i64 0, .int .u8 0] 63 (0, 0)) := (by rw [unhide HE2]; exact St1.row W1 N (unhide HN1) _); have HF2 : Hid (Below V.heap.size V W2) := hs2.below ((unhide HVW).trans ((unhide HB1).mono (unhide HVN))) (unhide HVN); have HG2 : Hid (Below V.heap.size W W2) := hs2.below ((unhide HB1).mono (unhide HVN)) (unhide HVN); have HX2 := hide (hs2.keep (unhide HX1) (unhide HXN)); obtain ⟨n0, n1, n2, n3, n4⟩ := row5 (unhide HN2); obtain ⟨x0, x1⟩ := box2 (unhide HX2); clear hs2 HE2)
    | ((with_reducible refine wpList_store_ci (by rfl) 3 (.tmp 14) (.const (.int .i64 1)) (by rfl) (by rfl) N 1 .i64 1 (by with_unfolding_all rfl) (by with_unfolding_all rfl) #[.string key, .int .i64 0, .string ⟨#[]⟩, .int .i64 0, .int .u8 0] 63 (unhide HN2) (by simp) intInfo #[.string key, .int .i64 1, .string ⟨#[]⟩, .int .i64 0, .int .u8 0] (by with_unfolding_all rfl) ?_); intro W3 hs; replace hs := unhide hs; have HF3 : Hid (Below V.heap.size V W3) := hs.below (unhide HF2) (unhide HVN); have HG3 : Hid (Below V.heap.size W W3) := hs.below (unhide HG2) (unhide HVN); have HN3 := hide hs.new; have HX3 := hide (hs.keep (unhide HX2) (unhide HXN)); obtain ⟨n0, n1, n2, n3, n4⟩ := row5 (unhide HN3); obtain ⟨x0, x1⟩ := box2 (unhide HX3); have g0 := cell_one ((unhide HV).below (unhide HF3)).box; have w0 := cell_one (box_below (unhide HWB) (unhide HF3)); clear hs HF2 HG2 HN2 HX2)
    | ((with_reducible refine wpList_store_c2 (by rfl) 57 (.tmp 18) (.tmp 17) (by rfl) (by rfl) N 2 xk xn (by with_unfolding_all rfl) (by with_unfolding_all rfl) #[.string key, .int .i64 1, .string ⟨#[]⟩, .int .i64 0, .int .u8 0] 63 (unhide HN3) (by simp) itInfo #[.string key, .int .i64 1, .string xk, .int .i64 xn, .int .u8 0] (by with_unfolding_all rfl) ?_); intro W4 hs; replace hs := unhide hs; have HF4 : Hid (Below V.heap.size V W4) := hs.below (unhide HF3) (unhide HVN); have HG4 : Hid (Below V.heap.size W W4) := hs.below (unhide HG3) (unhide HVN); have HN4 := hide hs.new; have HX4 := hide (hs.keep (unhide HX3) (unhide HXN)); obtain ⟨n0, n1, n2, n3, n4⟩ := row5 (unhide HN4); obtain ⟨x0, x1⟩ := box2 (unhide HX4); have g0 := cell_one ((unhide HV).below (unhide HF4)).box; have w0 := cell_one (box_below (unhide HWB) (unhide HF4)); clear hs HF3 HG3 HN3 HX3)
    | ((with_reducible refine wpList_store_c2 (by rfl) 57 (.tmp 21) (.tmp 20) (by rfl) (by rfl) bx 0 spW 0 (by with_unfolding_all rfl) (by with_unfolding_all rfl) #[.string xk, .int .i64 xn] 57 (unhide HX4) (by simp) itInfo #[.string spW, .int .i64 0] (by with_unfolding_all rfl) ?_); intro W5 hs; replace hs := unhide hs; have HF5 : Hid (Below V.heap.size V W5) := hs.below (unhide HF4) (unhide HBX); have HG5 : Hid (Below V.heap.size W W5) := hs.below (unhide HG4) (unhide HBX); have HN5 := hide (hs.keep (unhide HN4) (fun e => unhide HXN e.symm)); have HX5 := hide hs.new; obtain ⟨n0, n1, n2, n3, n4⟩ := row5 (unhide HN5); obtain ⟨x0, x1⟩ := box2 (unhide HX5); have g0 := cell_one ((unhide HV).below (unhide HF5)).box; have w0 := cell_one (box_below (unhide HWB) (unhide HF5)); clear hs HF4 HG4 HN4 HX4)
    | fail)
  have hcmp : (gn : Int) > (wk : Int) := by omega
  obtain ⟨n0, n1, n2, n3, n4⟩ := row5 (unhide HN5)
  have g0 := cell_one ((unhide HV).below (unhide HF5)).box
  have w0 := cell_one (box_below (unhide HWB) (unhide HF5))
  go_wp2_with (first
    | ((with_reducible refine wpList_store_cb (by rfl) 4 (.tmp 5) (.const (.bool false)) (by rfl) (by rfl) rb false (by with_unfolding_all rfl) (by with_unfolding_all rfl) _ _ (box_below (unhide HRB) (unhide HF5)) boolInfo ?_); intro W20 hs; replace hs := unhide hs; have HS20 := hide hs; clear hs)
    | fail)
  go_returns
  have hgo : go ≤ V.heap.size := Nat.le_of_succ_le (unhide HGO)
  have hv20 := (unhide HV).below (unhide HF5)
  refine ⟨rfl, ⟨xo, gn, gc, ⟨(unhide HS20).keep hv20.box (fun e => by have := unhide HGR; omega), hv20.hn, own_keep hv20.own fun g hg => (unhide HS20).other g fun e => ?_⟩, (unhide HS20).new, unhide HXR⟩, (unhide HS20).below ((unhide HG5).mono hgo) (Nat.le_of_lt (unhide HGR))⟩
  cases xo with
  | none => cases hg
  | some ad => exact unhide HXR ad rfl ((Option.some.inj hg).trans e)
set_option maxRecDepth 100000 in
set_option maxHeartbeats 4000000 in
theorem cEachY (key : ByteArray) (by_ : Nat) (y : UInt8) (V W : World) (go wb rb : Nat) (gl : List To) (xo : Option Addr) (gn gc : Nat) (wo : Option Addr) (wk wc : Nat) (hV : RT.Var V go gl xo gn gc) (hwb : V.heap[wb]? = some (.cells #[.slice wo wk wc] 53 (0, 0))) (hrb : V.heap[rb]? = some (.cells #[.bool true] 4 (0, 0))) (hgr : go < rb) (hxr : ∀ ad : Addr, xo = some ad → ad.block ≠ rb) (hVW : Below V.heap.size V W) (hby : V.heap.size ≤ by_) (hY : W.heap[by_]? = some (.cells #[.int .u8 (y.toNat : Int)] 5 (0, 0))) (hlen : gl.length ≤ wk) (hwk : wk ≤ 4398046511) :
    Calls Try.prog 44 (#[.string key, .pointer none, .pointer (some ⟨by_, 0, none⟩)] ++ #[.pointer (some ⟨go, 0, none⟩), .pointer (some ⟨wb, 0, none⟩), .pointer (some ⟨rb, 0, none⟩)]) W fun e W' => e = .returned (.tuple #[]) ∧ CE W' go rb (gl ++ [((key, 2, ((⟨#[]⟩ : ByteArray), 0), y) : To)]) true ∧ Below go W W' := by
  show Calls Try.prog 44 #[.string key, .pointer none, .pointer (some ⟨by_, 0, none⟩), .pointer (some ⟨go, 0, none⟩), .pointer (some ⟨wb, 0, none⟩), .pointer (some ⟨rb, 0, none⟩)] W _
  have HV := hide hV
  have HWB := hide hwb
  have HRB := hide hrb
  have HGR := hide hgr
  have HXR := hide hxr
  have HVW := hide hVW
  have HGO : Hid (go + 1 ≤ V.heap.size) := hV.lt
  have HGN := hide hV.hn
  have HLN := hide hlen
  have hgni : (gn : Int) ≤ (wk : Int) := by have := hV.hn; omega
  have hwki : (wk : Int) ≤ 4398046511 := by omega
  have HWK := hide hwk
  obtain ⟨N, hN⟩ : ∃ N, N = W.heap.size := ⟨_, rfl⟩
  have HN := hide hN
  have HVN : Hid (V.heap.size ≤ N) := by rw [hN]; exact hVW.size
  have HY := hide hY
  have HBY := hide hby
  have HYN : Hid (by_ ≠ N) := by
    have := (Array.getElem?_eq_some_iff.1 hY).1
    show by_ ≠ N; omega
  clear hV hwb hrb hgr hxr hVW hlen hwk hN hY hby
  go_enter Try.func44, Try.ntmps44
  go_upto_region 9 with (first
    | ((with_reducible refine wpList_alloc_row (by rfl) 63 (by rfl) (some 9) (by rfl) N (unhide HN).symm #[.string ⟨#[]⟩, .int .i64 0, .string ⟨#[]⟩, .int .i64 0, .int .u8 0] zeroTo ?_); intro W1 HN1 HB1 HS1; simp only [Act.put, List.setIfInBounds_toArray, List.set_cons_zero, List.set_cons_succ]; have HY1 := hide (((unhide HB1).block by_ (by have := (Array.getElem?_eq_some_iff.1 (unhide HY)).1; have e1 := unhide HN; omega)).trans (unhide HY)); clear HN)
    | ((with_reducible refine wpList_store_to (by rfl) (.tmp 9) (.tmp 11) (by rfl) N key 0 ⟨#[]⟩ 0 0 (by with_unfolding_all rfl) (by with_unfolding_all rfl) ⟨#[]⟩ 0 ⟨#[]⟩ 0 0 (unhide HN1) ?_); intro W2 HN2 HE2; simp only [Act.put]; have hs2 : St1 W1 W2 N (.cells #[.string key, .int .i64 0, .string ⟨#[]⟩, .int .i64 0, .int .u8 0] 63 (0, 0)) := (by rw [unhide HE2]; exact St1.row W1 N (unhide HN1) _); have HF2 : Hid (Below V.heap.size V W2) := hs2.below ((unhide HVW).trans ((unhide HB1).mono (unhide HVN))) (unhide HVN); have HG2 : Hid (Below V.heap.size W W2) := hs2.below ((unhide HB1).mono (unhide HVN)) (unhide HVN); have HY2 := hide (hs2.keep (unhide HY1) (unhide HYN)); obtain ⟨n0, n1, n2, n3, n4⟩ := row5 (unhide HN2); have y0 := cell_one (unhide HY2); clear hs2 HE2)
    | ((with_reducible refine wpList_store_ci (by rfl) 3 (.tmp 27) (.tmp 26) (by rfl) (by rfl) N 1 .i64 2 (by with_unfolding_all rfl) (by with_unfolding_all rfl) #[.string key, .int .i64 0, .string ⟨#[]⟩, .int .i64 0, .int .u8 0] 63 (unhide HN2) (by simp) intInfo #[.string key, .int .i64 2, .string ⟨#[]⟩, .int .i64 0, .int .u8 0] (by with_unfolding_all rfl) ?_); intro W3 hs; replace hs := unhide hs; have HF3 : Hid (Below V.heap.size V W3) := hs.below (unhide HF2) (unhide HVN); have HG3 : Hid (Below V.heap.size W W3) := hs.below (unhide HG2) (unhide HVN); have HN3 := hide hs.new; have HY3 := hide (hs.keep (unhide HY2) (unhide HYN)); obtain ⟨n0, n1, n2, n3, n4⟩ := row5 (unhide HN3); have y0 := cell_one (unhide HY3); have g0 := cell_one ((unhide HV).below (unhide HF3)).box; have w0 := cell_one (box_below (unhide HWB) (unhide HF3)); clear hs HF2 HG2 HN2 HY2)
    | ((with_reducible refine wpList_store_ci (by rfl) 5 (.tmp 31) (.tmp 30) (by rfl) (by rfl) N 4 .u8 (y.toNat : Int) (by with_unfolding_all rfl) (by with_unfolding_all rfl) #[.string key, .int .i64 2, .string ⟨#[]⟩, .int .i64 0, .int .u8 0] 63 (unhide HN3) (by simp) u8Info #[.string key, .int .i64 2, .string ⟨#[]⟩, .int .i64 0, .int .u8 (y.toNat : Int)] (by with_unfolding_all rfl) ?_); intro W4 hs; replace hs := unhide hs; have HF4 : Hid (Below V.heap.size V W4) := hs.below (unhide HF3) (unhide HVN); have HG4 : Hid (Below V.heap.size W W4) := hs.below (unhide HG3) (unhide HVN); have HN4 := hide hs.new; have HY4 := hide (hs.keep (unhide HY3) (unhide HYN)); obtain ⟨n0, n1, n2, n3, n4⟩ := row5 (unhide HN4); have y0 := cell_one (unhide HY4); have g0 := cell_one ((unhide HV).below (unhide HF4)).box; have w0 := cell_one (box_below (unhide HWB) (unhide HF4)); clear hs HF3 HG3 HN3 HY3)
    | ((with_reducible refine wpList_store_ci (by rfl) 5 (.tmp 33) (.const (.int .u8 99)) (by rfl) (by rfl) by_ 0 .u8 99 (by with_unfolding_all rfl) (by with_unfolding_all rfl) #[.int .u8 (y.toNat : Int)] 5 (unhide HY4) (by simp) u8Info #[.int .u8 99] (by with_unfolding_all rfl) ?_); intro W5 hs; replace hs := unhide hs; have HF5 : Hid (Below V.heap.size V W5) := hs.below (unhide HF4) (unhide HBY); have HG5 : Hid (Below V.heap.size W W5) := hs.below (unhide HG4) (unhide HBY); have HN5 := hide (hs.keep (unhide HN4) (fun e => unhide HYN e.symm)); have HY5 := hide hs.new; obtain ⟨n0, n1, n2, n3, n4⟩ := row5 (unhide HN5); have y0 := cell_one (unhide HY5); have g0 := cell_one ((unhide HV).below (unhide HF5)).box; have w0 := cell_one (box_below (unhide HWB) (unhide HF5)); clear hs HF4 HG4 HN4 HY4)
    | fail)
  have HVA : Hid (RT.Var (W5.alloc (.cells #[.string key, .int .i64 2, .string ⟨#[]⟩, .int .i64 0, .int .u8 (y.toNat : Int)] 63)) go gl xo gn gc) := (unhide HV).below ((unhide HF5).alloc (unhide HF5).size _)
  have HAA : Hid (RT.At (W5.alloc (.cells #[.string key, .int .i64 2, .string ⟨#[]⟩, .int .i64 0, .int .u8 (y.toNat : Int)] 63)) [((key, 2, ((⟨#[]⟩ : ByteArray), 0), y) : To)] (some ⟨W5.heap.size, 0, none⟩) 1) := RT.one W5 key 2 ⟨#[]⟩ 0 y _
  have HLL : Hid ((gl.length + [((key, 2, ((⟨#[]⟩ : ByteArray), 0), y) : To)].length) * 56 ≤ 140737488355328) := by
    have h1 := unhide HLN
    have h2 := unhide HWK
    show (gl.length + 1) * 56 ≤ _; omega
  have HSA : Hid (go + 1 ≤ (W5.alloc (.cells #[.string key, .int .i64 2, .string ⟨#[]⟩, .int .i64 0, .int .u8 (y.toNat : Int)] 63)).heap.size) := (unhide HVA).lt
  have hcmp : ¬ (gn : Int) > (wk : Int) := by omega
  have hcmp2 : (gn : Int) ≤ (wk : Int) := by omega
  obtain ⟨n0, n1, n2, n3, n4⟩ := row5 (unhide HN5)
  have g0 := cell_one ((unhide HV).below (unhide HF5)).box
  have w0 := cell_one (box_below (unhide HWB) (unhide HF5))
  go_wp2_with (first
    | (at_builtin; (with_reducible refine wpList_putT (by rfl) (.tmp 39) (.tmp 41) (by rfl) (some 42) (by rfl) (go + 1) gl [((key, 2, ((⟨#[]⟩ : ByteArray), 0), y) : To)] gn 1 (unhide HGN) rfl xo (some ⟨W5.heap.size, 0, none⟩) gc 1 (by with_unfolding_all rfl) (by with_unfolding_all rfl) (unhide HVA).own (unhide HAA) (unhide HLL) (unhide HSA) ?_); intro x4 n4 c4 W20 HP4; simp only [Act.put, List.setIfInBounds_toArray, List.set_cons_zero, List.set_cons_succ]; have hpv := (unhide HVA).put (unhide HP4); have HB20 := hide hpv.1; have HV20 := hide hpv.2; clear hpv)
    | ((with_reducible refine wpList_store_csl (by rfl) 53 (.tmp 3) (.tmp 42) (by rfl) (by rfl) go x4 n4 c4 (by with_unfolding_all rfl) (by with_unfolding_all rfl) _ _ (unhide HB20) tosInfo ?_))
    | fail)
  go_returns
  have hnr : ∀ ad : Addr, x4 = some ad → ad.block ≠ rb := fun ad e hh => by
    obtain ⟨g, rfl⟩ := own_addr (unhide HP4).own ad e
    have hrl : rb < V.heap.size := (Array.getElem?_eq_some_iff.1 (unhide HRB)).1
    rcases (unhide HP4).new g 0 e with ⟨o', h⟩ | h
    · exact unhide HXR ⟨g, o', none⟩ h hh
    · have h1 := (unhide HF5).size
      have h2 := szNew W5 (.cells #[.string key, .int .i64 2, .string ⟨#[]⟩, .int .i64 0, .int .u8 (y.toNat : Int)] 63)
      have h3 : g = rb := hh
      omega
  have hgo : go ≤ V.heap.size := Nat.le_of_succ_le (unhide HGO)
  refine ⟨rfl, ⟨x4, n4, c4, unhide HV20, ?_, hnr⟩, ?_⟩
  · obtain ⟨_, _, _, _, g5⟩ := (unhide HP4).grown
    have hrl : rb < V.heap.size := (Array.getElem?_eq_some_iff.1 (unhide HRB)).1
    have hrw : (W5.alloc (.cells #[.string key, .int .i64 2, .string ⟨#[]⟩, .int .i64 0, .int .u8 (y.toNat : Int)] 63)).heap[rb]? = some (.cells #[.bool true] 4 (0, 0)) := box_below (unhide HRB) ((unhide HF5).alloc (unhide HF5).size _)
    refine (Below.heap_setCell W20 ⟨go, 0, none⟩ _ rb (fun e => by have := unhide HGR; have e : rb = go := e; omega)).trans ((g5 rb (Array.getElem?_eq_some_iff.1 hrw).1 fun e => ?_).trans hrw)
    cases xo with
    | none => cases e
    | some ad => exact unhide HXR ad rfl (Option.some.inj e).symm
  · have hb1 : Below V.heap.size W (W5.alloc (.cells #[.string key, .int .i64 2, .string ⟨#[]⟩, .int .i64 0, .int .u8 (y.toNat : Int)] 63)) := (unhide HG5).alloc (Nat.le_trans (unhide HF5).size (Nat.le_refl _)) _
    exact D.belowCell ((hb1.mono hgo).trans ((unhide HP4).below.mono (Nat.le_succ _))) (p := ⟨go, 0, none⟩) (Nat.le_refl _) _
set_option maxRecDepth 100000 in
set_option maxHeartbeats 4000000 in
theorem cEachYN (key : ByteArray) (by_ : Nat) (y : UInt8) (V W : World) (go wb rb : Nat) (gl : List To) (xo : Option Addr) (gn gc : Nat) (wo : Option Addr) (wk wc : Nat) (r : Bool) (hV : RT.Var V go gl xo gn gc) (hwb : V.heap[wb]? = some (.cells #[.slice wo wk wc] 53 (0, 0))) (hrb : V.heap[rb]? = some (.cells #[.bool r] 4 (0, 0))) (hgr : go < rb) (hxr : ∀ ad : Addr, xo = some ad → ad.block ≠ rb) (hVW : Below V.heap.size V W) (hby : V.heap.size ≤ by_) (hY : W.heap[by_]? = some (.cells #[.int .u8 (y.toNat : Int)] 5 (0, 0))) (hlen : gl.length = wk + 1) (hwk : wk ≤ 4398046511) :
    Calls Try.prog 44 (#[.string key, .pointer none, .pointer (some ⟨by_, 0, none⟩)] ++ #[.pointer (some ⟨go, 0, none⟩), .pointer (some ⟨wb, 0, none⟩), .pointer (some ⟨rb, 0, none⟩)]) W fun e W' => e = .returned (.tuple #[]) ∧ CE W' go rb gl false ∧ Below go W W' := by
  show Calls Try.prog 44 #[.string key, .pointer none, .pointer (some ⟨by_, 0, none⟩), .pointer (some ⟨go, 0, none⟩), .pointer (some ⟨wb, 0, none⟩), .pointer (some ⟨rb, 0, none⟩)] W _
  have HV := hide hV
  have HWB := hide hwb
  have HRB := hide hrb
  have HGR := hide hgr
  have HXR := hide hxr
  have HVW := hide hVW
  have HGO : Hid (go + 1 ≤ V.heap.size) := hV.lt
  have HGN := hide hV.hn
  have HLN := hide hlen
  have hgni : (gn : Int) = (wk : Int) + 1 := by have := hV.hn; omega
  have hwki : (wk : Int) ≤ 4398046511 := by omega
  have HWK := hide hwk
  obtain ⟨N, hN⟩ : ∃ N, N = W.heap.size := ⟨_, rfl⟩
  have HN := hide hN
  have HVN : Hid (V.heap.size ≤ N) := by rw [hN]; exact hVW.size
  have HY := hide hY
  have HBY := hide hby
  have HYN : Hid (by_ ≠ N) := by
    have := (Array.getElem?_eq_some_iff.1 hY).1
    show by_ ≠ N; omega
  clear hV hwb hrb hgr hxr hVW hlen hwk hN hY hby
  go_enter Try.func44, Try.ntmps44
  go_upto_region 9 with (first
    | ((with_reducible refine wpList_alloc_row (by rfl) 63 (by rfl) (some 9) (by rfl) N (unhide HN).symm #[.string ⟨#[]⟩, .int .i64 0, .string ⟨#[]⟩, .int .i64 0, .int .u8 0] zeroTo ?_); intro W1 HN1 HB1 HS1; simp only [Act.put, List.setIfInBounds_toArray, List.set_cons_zero, List.set_cons_succ]; have HY1 := hide (((unhide HB1).block by_ (by have := (Array.getElem?_eq_some_iff.1 (unhide HY)).1; have e1 := unhide HN; omega)).trans (unhide HY)); clear HN)
    | ((with_reducible refine wpList_store_to (by rfl) (.tmp 9) (.tmp 11) (by rfl) N key 0 ⟨#[]⟩ 0 0 (by with_unfolding_all rfl) (by with_unfolding_all rfl) ⟨#[]⟩ 0 ⟨#[]⟩ 0 0 (unhide HN1) ?_); intro W2 HN2 HE2; simp only [Act.put]; have hs2 : St1 W1 W2 N (.cells #[.string key, .int .i64 0, .string ⟨#[]⟩, .int .i64 0, .int .u8 0] 63 (0, 0)) := (by rw [unhide HE2]; exact St1.row W1 N (unhide HN1) _); have HF2 : Hid (Below V.heap.size V W2) := hs2.below ((unhide HVW).trans ((unhide HB1).mono (unhide HVN))) (unhide HVN); have HG2 : Hid (Below V.heap.size W W2) := hs2.below ((unhide HB1).mono (unhide HVN)) (unhide HVN); have HY2 := hide (hs2.keep (unhide HY1) (unhide HYN)); obtain ⟨n0, n1, n2, n3, n4⟩ := row5 (unhide HN2); have y0 := cell_one (unhide HY2); clear hs2 HE2)
    | ((with_reducible refine wpList_store_ci (by rfl) 3 (.tmp 27) (.tmp 26) (by rfl) (by rfl) N 1 .i64 2 (by with_unfolding_all rfl) (by with_unfolding_all rfl) #[.string key, .int .i64 0, .string ⟨#[]⟩, .int .i64 0, .int .u8 0] 63 (unhide HN2) (by simp) intInfo #[.string key, .int .i64 2, .string ⟨#[]⟩, .int .i64 0, .int .u8 0] (by with_unfolding_all rfl) ?_); intro W3 hs; replace hs := unhide hs; have HF3 : Hid (Below V.heap.size V W3) := hs.below (unhide HF2) (unhide HVN); have HG3 : Hid (Below V.heap.size W W3) := hs.below (unhide HG2) (unhide HVN); have HN3 := hide hs.new; have HY3 := hide (hs.keep (unhide HY2) (unhide HYN)); obtain ⟨n0, n1, n2, n3, n4⟩ := row5 (unhide HN3); have y0 := cell_one (unhide HY3); have g0 := cell_one ((unhide HV).below (unhide HF3)).box; have w0 := cell_one (box_below (unhide HWB) (unhide HF3)); clear hs HF2 HG2 HN2 HY2)
    | ((with_reducible refine wpList_store_ci (by rfl) 5 (.tmp 31) (.tmp 30) (by rfl) (by rfl) N 4 .u8 (y.toNat : Int) (by with_unfolding_all rfl) (by with_unfolding_all rfl) #[.string key, .int .i64 2, .string ⟨#[]⟩, .int .i64 0, .int .u8 0] 63 (unhide HN3) (by simp) u8Info #[.string key, .int .i64 2, .string ⟨#[]⟩, .int .i64 0, .int .u8 (y.toNat : Int)] (by with_unfolding_all rfl) ?_); intro W4 hs; replace hs := unhide hs; have HF4 : Hid (Below V.heap.size V W4) := hs.below (unhide HF3) (unhide HVN); have HG4 : Hid (Below V.heap.size W W4) := hs.below (unhide HG3) (unhide HVN); have HN4 := hide hs.new; have HY4 := hide (hs.keep (unhide HY3) (unhide HYN)); obtain ⟨n0, n1, n2, n3, n4⟩ := row5 (unhide HN4); have y0 := cell_one (unhide HY4); have g0 := cell_one ((unhide HV).below (unhide HF4)).box; have w0 := cell_one (box_below (unhide HWB) (unhide HF4)); clear hs HF3 HG3 HN3 HY3)
    | ((with_reducible refine wpList_store_ci (by rfl) 5 (.tmp 33) (.const (.int .u8 99)) (by rfl) (by rfl) by_ 0 .u8 99 (by with_unfolding_all rfl) (by with_unfolding_all rfl) #[.int .u8 (y.toNat : Int)] 5 (unhide HY4) (by simp) u8Info #[.int .u8 99] (by with_unfolding_all rfl) ?_); intro W5 hs; replace hs := unhide hs; have HF5 : Hid (Below V.heap.size V W5) := hs.below (unhide HF4) (unhide HBY); have HG5 : Hid (Below V.heap.size W W5) := hs.below (unhide HG4) (unhide HBY); have HN5 := hide (hs.keep (unhide HN4) (fun e => unhide HYN e.symm)); have HY5 := hide hs.new; obtain ⟨n0, n1, n2, n3, n4⟩ := row5 (unhide HN5); have y0 := cell_one (unhide HY5); have g0 := cell_one ((unhide HV).below (unhide HF5)).box; have w0 := cell_one (box_below (unhide HWB) (unhide HF5)); clear hs HF4 HG4 HN4 HY4)
    | fail)
  have hcmp : (gn : Int) > (wk : Int) := by omega
  obtain ⟨n0, n1, n2, n3, n4⟩ := row5 (unhide HN5)
  have g0 := cell_one ((unhide HV).below (unhide HF5)).box
  have w0 := cell_one (box_below (unhide HWB) (unhide HF5))
  go_wp2_with (first
    | ((with_reducible refine wpList_store_cb (by rfl) 4 (.tmp 5) (.const (.bool false)) (by rfl) (by rfl) rb false (by with_unfolding_all rfl) (by with_unfolding_all rfl) _ _ (box_below (unhide HRB) (unhide HF5)) boolInfo ?_); intro W20 hs; replace hs := unhide hs; have HS20 := hide hs; clear hs)
    | fail)
  go_returns
  have hgo : go ≤ V.heap.size := Nat.le_of_succ_le (unhide HGO)
  have hv20 := (unhide HV).below (unhide HF5)
  refine ⟨rfl, ⟨xo, gn, gc, ⟨(unhide HS20).keep hv20.box (fun e => by have := unhide HGR; omega), hv20.hn, own_keep hv20.own fun g hg => (unhide HS20).other g fun e => ?_⟩, (unhide HS20).new, unhide HXR⟩, (unhide HS20).below ((unhide HG5).mono hgo) (Nat.le_of_lt (unhide HGR))⟩
  cases xo with
  | none => cases hg
  | some ad => exact unhide HXR ad rfl ((Option.some.inj hg).trans e)
set_option maxRecDepth 100000 in
set_option maxHeartbeats 4000000 in
theorem cEachXY (key : ByteArray) (bx : Nat) (xk : ByteArray) (xn : Int) (by_ : Nat) (y : UInt8) (V W : World) (go wb rb : Nat) (gl : List To) (xo : Option Addr) (gn gc : Nat) (wo : Option Addr) (wk wc : Nat) (hV : RT.Var V go gl xo gn gc) (hwb : V.heap[wb]? = some (.cells #[.slice wo wk wc] 53 (0, 0))) (hrb : V.heap[rb]? = some (.cells #[.bool true] 4 (0, 0))) (hgr : go < rb) (hxr : ∀ ad : Addr, xo = some ad → ad.block ≠ rb) (hVW : Below V.heap.size V W) (hbx : V.heap.size ≤ bx) (hX : W.heap[bx]? = some (.cells #[.string xk, .int .i64 xn] 57 (0, 0))) (hby : V.heap.size ≤ by_) (hY : W.heap[by_]? = some (.cells #[.int .u8 (y.toNat : Int)] 5 (0, 0))) (hxy : bx ≠ by_) (hlen : gl.length ≤ wk) (hwk : wk ≤ 4398046511) :
    Calls Try.prog 44 (#[.string key, .pointer (some ⟨bx, 0, none⟩), .pointer (some ⟨by_, 0, none⟩)] ++ #[.pointer (some ⟨go, 0, none⟩), .pointer (some ⟨wb, 0, none⟩), .pointer (some ⟨rb, 0, none⟩)]) W fun e W' => e = .returned (.tuple #[]) ∧ CE W' go rb (gl ++ [((key, 3, (xk, xn), y) : To)]) true ∧ Below go W W' := by
  show Calls Try.prog 44 #[.string key, .pointer (some ⟨bx, 0, none⟩), .pointer (some ⟨by_, 0, none⟩), .pointer (some ⟨go, 0, none⟩), .pointer (some ⟨wb, 0, none⟩), .pointer (some ⟨rb, 0, none⟩)] W _
  have HV := hide hV
  have HWB := hide hwb
  have HRB := hide hrb
  have HGR := hide hgr
  have HXR := hide hxr
  have HVW := hide hVW
  have HGO : Hid (go + 1 ≤ V.heap.size) := hV.lt
  have HGN := hide hV.hn
  have HLN := hide hlen
  have hgni : (gn : Int) ≤ (wk : Int) := by have := hV.hn; omega
  have hwki : (wk : Int) ≤ 4398046511 := by omega
  have HWK := hide hwk
  obtain ⟨N, hN⟩ : ∃ N, N = W.heap.size := ⟨_, rfl⟩
  have HN := hide hN
  have HVN : Hid (V.heap.size ≤ N) := by rw [hN]; exact hVW.size
  have HX := hide hX
  have HBX := hide hbx
  have HXN : Hid (bx ≠ N) := by
    have := (Array.getElem?_eq_some_iff.1 hX).1
    show bx ≠ N; omega
  have HY := hide hY
  have HBY := hide hby
  have HYN : Hid (by_ ≠ N) := by
    have := (Array.getElem?_eq_some_iff.1 hY).1
    show by_ ≠ N; omega
  have HXY := hide hxy
  clear hV hwb hrb hgr hxr hVW hlen hwk hN hX hbx hY hby hxy
  go_enter Try.func44, Try.ntmps44
  go_upto_region 9 with (first
    | ((with_reducible refine wpList_alloc_row (by rfl) 63 (by rfl) (some 9) (by rfl) N (unhide HN).symm #[.string ⟨#[]⟩, .int .i64 0, .string ⟨#[]⟩, .int .i64 0, .int .u8 0] zeroTo ?_); intro W1 HN1 HB1 HS1; simp only [Act.put, List.setIfInBounds_toArray, List.set_cons_zero, List.set_cons_succ]; have HX1 := hide (((unhide HB1).block bx (by have := (Array.getElem?_eq_some_iff.1 (unhide HX)).1; have := unhide HXN; have e1 := unhide HN; omega)).trans (unhide HX)); have HY1 := hide (((unhide HB1).block by_ (by have := (Array.getElem?_eq_some_iff.1 (unhide HY)).1; have e1 := unhide HN; omega)).trans (unhide HY)); clear HN)
    | ((with_reducible refine wpList_store_to (by rfl) (.tmp 9) (.tmp 11) (by rfl) N key 0 ⟨#[]⟩ 0 0 (by with_unfolding_all rfl) (by with_unfolding_all rfl) ⟨#[]⟩ 0 ⟨#[]⟩ 0 0 (unhide HN1) ?_); intro W2 HN2 HE2; simp only [Act.put]; have hs2 : St1 W1 W2 N (.cells #[.string key, .int .i64 0, .string ⟨#[]⟩, .int .i64 0, .int .u8 0] 63 (0, 0)) := (by rw [unhide HE2]; exact St1.row W1 N (unhide HN1) _); have HF2 : Hid (Below V.heap.size V W2) := hs2.below ((unhide HVW).trans ((unhide HB1).mono (unhide HVN))) (unhide HVN); have HG2 : Hid (Below V.heap.size W W2) := hs2.below ((unhide HB1).mono (unhide HVN)) (unhide HVN); have HX2 := hide (hs2.keep (unhide HX1) (unhide HXN)); have HY2 := hide (hs2.keep (unhide HY1) (unhide HYN)); obtain ⟨n0, n1, n2, n3, n4⟩ := row5 (unhide HN2); obtain ⟨x0, x1⟩ := box2 (unhide HX2); have y0 := cell_one (unhide HY2); clear hs2 HE2)
    | ((with_reducible refine wpList_store_ci (by rfl) 3 (.tmp 14) (.const (.int .i64 1)) (by rfl) (by rfl) N 1 .i64 1 (by with_unfolding_all rfl) (by with_unfolding_all rfl) #[.string key, .int .i64 0, .string ⟨#[]⟩, .int .i64 0, .int .u8 0] 63 (unhide HN2) (by simp) intInfo #[.string key, .int .i64 1, .string ⟨#[]⟩, .int .i64 0, .int .u8 0] (by with_unfolding_all rfl) ?_); intro W3 hs; replace hs := unhide hs; have HF3 : Hid (Below V.heap.size V W3) := hs.below (unhide HF2) (unhide HVN); have HG3 : Hid (Below V.heap.size W W3) := hs.below (unhide HG2) (unhide HVN); have HN3 := hide hs.new; have HX3 := hide (hs.keep (unhide HX2) (unhide HXN)); have HY3 := hide (hs.keep (unhide HY2) (unhide HYN)); obtain ⟨n0, n1, n2, n3, n4⟩ := row5 (unhide HN3); obtain ⟨x0, x1⟩ := box2 (unhide HX3); have y0 := cell_one (unhide HY3); have g0 := cell_one ((unhide HV).below (unhide HF3)).box; have w0 := cell_one (box_below (unhide HWB) (unhide HF3)); clear hs HF2 HG2 HN2 HX2 HY2)
    | ((with_reducible refine wpList_store_c2 (by rfl) 57 (.tmp 18) (.tmp 17) (by rfl) (by rfl) N 2 xk xn (by with_unfolding_all rfl) (by with_unfolding_all rfl) #[.string key, .int .i64 1, .string ⟨#[]⟩, .int .i64 0, .int .u8 0] 63 (unhide HN3) (by simp) itInfo #[.string key, .int .i64 1, .string xk, .int .i64 xn, .int .u8 0] (by with_unfolding_all rfl) ?_); intro W4 hs; replace hs := unhide hs; have HF4 : Hid (Below V.heap.size V W4) := hs.below (unhide HF3) (unhide HVN); have HG4 : Hid (Below V.heap.size W W4) := hs.below (unhide HG3) (unhide HVN); have HN4 := hide hs.new; have HX4 := hide (hs.keep (unhide HX3) (unhide HXN)); have HY4 := hide (hs.keep (unhide HY3) (unhide HYN)); obtain ⟨n0, n1, n2, n3, n4⟩ := row5 (unhide HN4); obtain ⟨x0, x1⟩ := box2 (unhide HX4); have y0 := cell_one (unhide HY4); have g0 := cell_one ((unhide HV).below (unhide HF4)).box; have w0 := cell_one (box_below (unhide HWB) (unhide HF4)); clear hs HF3 HG3 HN3 HX3 HY3)
    | ((with_reducible refine wpList_store_c2 (by rfl) 57 (.tmp 21) (.tmp 20) (by rfl) (by rfl) bx 0 spW 0 (by with_unfolding_all rfl) (by with_unfolding_all rfl) #[.string xk, .int .i64 xn] 57 (unhide HX4) (by simp) itInfo #[.string spW, .int .i64 0] (by with_unfolding_all rfl) ?_); intro W5 hs; replace hs := unhide hs; have HF5 : Hid (Below V.heap.size V W5) := hs.below (unhide HF4) (unhide HBX); have HG5 : Hid (Below V.heap.size W W5) := hs.below (unhide HG4) (unhide HBX); have HN5 := hide (hs.keep (unhide HN4) (fun e => unhide HXN e.symm)); have HX5 := hide hs.new; have HY5 := hide (hs.keep (unhide HY4) (fun e => unhide HXY e.symm)); obtain ⟨n0, n1, n2, n3, n4⟩ := row5 (unhide HN5); obtain ⟨x0, x1⟩ := box2 (unhide HX5); have y0 := cell_one (unhide HY5); have g0 := cell_one ((unhide HV).below (unhide HF5)).box; have w0 := cell_one (box_below (unhide HWB) (unhide HF5)); clear hs HF4 HG4 HN4 HX4 HY4)
    | ((with_reducible refine wpList_store_ci (by rfl) 3 (.tmp 27) (.tmp 26) (by rfl) (by rfl) N 1 .i64 3 (by with_unfolding_all rfl) (by with_unfolding_all rfl) #[.string key, .int .i64 1, .string xk, .int .i64 xn, .int .u8 0] 63 (unhide HN5) (by simp) intInfo #[.string key, .int .i64 3, .string xk, .int .i64 xn, .int .u8 0] (by with_unfolding_all rfl) ?_); intro W6 hs; replace hs := unhide hs; have HF6 : Hid (Below V.heap.size V W6) := hs.below (unhide HF5) (unhide HVN); have HG6 : Hid (Below V.heap.size W W6) := hs.below (unhide HG5) (unhide HVN); have HN6 := hide hs.new; have HX6 := hide (hs.keep (unhide HX5) (unhide HXN)); have HY6 := hide (hs.keep (unhide HY5) (unhide HYN)); obtain ⟨n0, n1, n2, n3, n4⟩ := row5 (unhide HN6); obtain ⟨x0, x1⟩ := box2 (unhide HX6); have y0 := cell_one (unhide HY6); have g0 := cell_one ((unhide HV).below (unhide HF6)).box; have w0 := cell_one (box_below (unhide HWB) (unhide HF6)); clear hs HF5 HG5 HN5 HX5 HY5)
    | ((with_reducible refine wpList_store_ci (by rfl) 5 (.tmp 31) (.tmp 30) (by rfl) (by rfl) N 4 .u8 (y.toNat : Int) (by with_unfolding_all rfl) (by with_unfolding_all rfl) #[.string key, .int .i64 3, .string xk, .int .i64 xn, .int .u8 0] 63 (unhide HN6) (by simp) u8Info #[.string key, .int .i64 3, .string xk, .int .i64 xn, .int .u8 (y.toNat : Int)] (by with_unfolding_all rfl) ?_); intro W7 hs; replace hs := unhide hs; have HF7 : Hid (Below V.heap.size V W7) := hs.below (unhide HF6) (unhide HVN); have HG7 : Hid (Below V.heap.size W W7) := hs.below (unhide HG6) (unhide HVN); have HN7 := hide hs.new; have HX7 := hide (hs.keep (unhide HX6) (unhide HXN)); have HY7 := hide (hs.keep (unhide HY6) (unhide HYN)); obtain ⟨n0, n1, n2, n3, n4⟩ := row5 (unhide HN7); obtain ⟨x0, x1⟩ := box2 (unhide HX7); have y0 := cell_one (unhide HY7); have g0 := cell_one ((unhide HV).below (unhide HF7)).box; have w0 := cell_one (box_below (unhide HWB) (unhide HF7)); clear hs HF6 HG6 HN6 HX6 HY6)
    | ((with_reducible refine wpList_store_ci (by rfl) 5 (.tmp 33) (.const (.int .u8 99)) (by rfl) (by rfl) by_ 0 .u8 99 (by with_unfolding_all rfl) (by with_unfolding_all rfl) #[.int .u8 (y.toNat : Int)] 5 (unhide HY7) (by simp) u8Info #[.int .u8 99] (by with_unfolding_all rfl) ?_); intro W8 hs; replace hs := unhide hs; have HF8 : Hid (Below V.heap.size V W8) := hs.below (unhide HF7) (unhide HBY); have HG8 : Hid (Below V.heap.size W W8) := hs.below (unhide HG7) (unhide HBY); have HN8 := hide (hs.keep (unhide HN7) (fun e => unhide HYN e.symm)); have HX8 := hide (hs.keep (unhide HX7) (unhide HXY)); have HY8 := hide hs.new; obtain ⟨n0, n1, n2, n3, n4⟩ := row5 (unhide HN8); obtain ⟨x0, x1⟩ := box2 (unhide HX8); have y0 := cell_one (unhide HY8); have g0 := cell_one ((unhide HV).below (unhide HF8)).box; have w0 := cell_one (box_below (unhide HWB) (unhide HF8)); clear hs HF7 HG7 HN7 HX7 HY7)
    | fail)
  have HVA : Hid (RT.Var (W8.alloc (.cells #[.string key, .int .i64 3, .string xk, .int .i64 xn, .int .u8 (y.toNat : Int)] 63)) go gl xo gn gc) := (unhide HV).below ((unhide HF8).alloc (unhide HF8).size _)
  have HAA : Hid (RT.At (W8.alloc (.cells #[.string key, .int .i64 3, .string xk, .int .i64 xn, .int .u8 (y.toNat : Int)] 63)) [((key, 3, (xk, xn), y) : To)] (some ⟨W8.heap.size, 0, none⟩) 1) := RT.one W8 key 3 xk xn y _
  have HLL : Hid ((gl.length + [((key, 3, (xk, xn), y) : To)].length) * 56 ≤ 140737488355328) := by
    have h1 := unhide HLN
    have h2 := unhide HWK
    show (gl.length + 1) * 56 ≤ _; omega
  have HSA : Hid (go + 1 ≤ (W8.alloc (.cells #[.string key, .int .i64 3, .string xk, .int .i64 xn, .int .u8 (y.toNat : Int)] 63)).heap.size) := (unhide HVA).lt
  have hcmp : ¬ (gn : Int) > (wk : Int) := by omega
  have hcmp2 : (gn : Int) ≤ (wk : Int) := by omega
  obtain ⟨n0, n1, n2, n3, n4⟩ := row5 (unhide HN8)
  have g0 := cell_one ((unhide HV).below (unhide HF8)).box
  have w0 := cell_one (box_below (unhide HWB) (unhide HF8))
  go_wp2_with (first
    | (at_builtin; (with_reducible refine wpList_putT (by rfl) (.tmp 39) (.tmp 41) (by rfl) (some 42) (by rfl) (go + 1) gl [((key, 3, (xk, xn), y) : To)] gn 1 (unhide HGN) rfl xo (some ⟨W8.heap.size, 0, none⟩) gc 1 (by with_unfolding_all rfl) (by with_unfolding_all rfl) (unhide HVA).own (unhide HAA) (unhide HLL) (unhide HSA) ?_); intro x4 n4 c4 W20 HP4; simp only [Act.put, List.setIfInBounds_toArray, List.set_cons_zero, List.set_cons_succ]; have hpv := (unhide HVA).put (unhide HP4); have HB20 := hide hpv.1; have HV20 := hide hpv.2; clear hpv)
    | ((with_reducible refine wpList_store_csl (by rfl) 53 (.tmp 3) (.tmp 42) (by rfl) (by rfl) go x4 n4 c4 (by with_unfolding_all rfl) (by with_unfolding_all rfl) _ _ (unhide HB20) tosInfo ?_))
    | fail)
  go_returns
  have hnr : ∀ ad : Addr, x4 = some ad → ad.block ≠ rb := fun ad e hh => by
    obtain ⟨g, rfl⟩ := own_addr (unhide HP4).own ad e
    have hrl : rb < V.heap.size := (Array.getElem?_eq_some_iff.1 (unhide HRB)).1
    rcases (unhide HP4).new g 0 e with ⟨o', h⟩ | h
    · exact unhide HXR ⟨g, o', none⟩ h hh
    · have h1 := (unhide HF8).size
      have h2 := szNew W8 (.cells #[.string key, .int .i64 3, .string xk, .int .i64 xn, .int .u8 (y.toNat : Int)] 63)
      have h3 : g = rb := hh
      omega
  have hgo : go ≤ V.heap.size := Nat.le_of_succ_le (unhide HGO)
  refine ⟨rfl, ⟨x4, n4, c4, unhide HV20, ?_, hnr⟩, ?_⟩
  · obtain ⟨_, _, _, _, g5⟩ := (unhide HP4).grown
    have hrl : rb < V.heap.size := (Array.getElem?_eq_some_iff.1 (unhide HRB)).1
    have hrw : (W8.alloc (.cells #[.string key, .int .i64 3, .string xk, .int .i64 xn, .int .u8 (y.toNat : Int)] 63)).heap[rb]? = some (.cells #[.bool true] 4 (0, 0)) := box_below (unhide HRB) ((unhide HF8).alloc (unhide HF8).size _)
    refine (Below.heap_setCell W20 ⟨go, 0, none⟩ _ rb (fun e => by have := unhide HGR; have e : rb = go := e; omega)).trans ((g5 rb (Array.getElem?_eq_some_iff.1 hrw).1 fun e => ?_).trans hrw)
    cases xo with
    | none => cases e
    | some ad => exact unhide HXR ad rfl (Option.some.inj e).symm
  · have hb1 : Below V.heap.size W (W8.alloc (.cells #[.string key, .int .i64 3, .string xk, .int .i64 xn, .int .u8 (y.toNat : Int)] 63)) := (unhide HG8).alloc (Nat.le_trans (unhide HF8).size (Nat.le_refl _)) _
    exact D.belowCell ((hb1.mono hgo).trans ((unhide HP4).below.mono (Nat.le_succ _))) (p := ⟨go, 0, none⟩) (Nat.le_refl _) _
set_option maxRecDepth 100000 in
set_option maxHeartbeats 4000000 in
theorem cEachXYN (key : ByteArray) (bx : Nat) (xk : ByteArray) (xn : Int) (by_ : Nat) (y : UInt8) (V W : World) (go wb rb : Nat) (gl : List To) (xo : Option Addr) (gn gc : Nat) (wo : Option Addr) (wk wc : Nat) (r : Bool) (hV : RT.Var V go gl xo gn gc) (hwb : V.heap[wb]? = some (.cells #[.slice wo wk wc] 53 (0, 0))) (hrb : V.heap[rb]? = some (.cells #[.bool r] 4 (0, 0))) (hgr : go < rb) (hxr : ∀ ad : Addr, xo = some ad → ad.block ≠ rb) (hVW : Below V.heap.size V W) (hbx : V.heap.size ≤ bx) (hX : W.heap[bx]? = some (.cells #[.string xk, .int .i64 xn] 57 (0, 0))) (hby : V.heap.size ≤ by_) (hY : W.heap[by_]? = some (.cells #[.int .u8 (y.toNat : Int)] 5 (0, 0))) (hxy : bx ≠ by_) (hlen : gl.length = wk + 1) (hwk : wk ≤ 4398046511) :
    Calls Try.prog 44 (#[.string key, .pointer (some ⟨bx, 0, none⟩), .pointer (some ⟨by_, 0, none⟩)] ++ #[.pointer (some ⟨go, 0, none⟩), .pointer (some ⟨wb, 0, none⟩), .pointer (some ⟨rb, 0, none⟩)]) W fun e W' => e = .returned (.tuple #[]) ∧ CE W' go rb gl false ∧ Below go W W' := by
  show Calls Try.prog 44 #[.string key, .pointer (some ⟨bx, 0, none⟩), .pointer (some ⟨by_, 0, none⟩), .pointer (some ⟨go, 0, none⟩), .pointer (some ⟨wb, 0, none⟩), .pointer (some ⟨rb, 0, none⟩)] W _
  have HV := hide hV
  have HWB := hide hwb
  have HRB := hide hrb
  have HGR := hide hgr
  have HXR := hide hxr
  have HVW := hide hVW
  have HGO : Hid (go + 1 ≤ V.heap.size) := hV.lt
  have HGN := hide hV.hn
  have HLN := hide hlen
  have hgni : (gn : Int) = (wk : Int) + 1 := by have := hV.hn; omega
  have hwki : (wk : Int) ≤ 4398046511 := by omega
  have HWK := hide hwk
  obtain ⟨N, hN⟩ : ∃ N, N = W.heap.size := ⟨_, rfl⟩
  have HN := hide hN
  have HVN : Hid (V.heap.size ≤ N) := by rw [hN]; exact hVW.size
  have HX := hide hX
  have HBX := hide hbx
  have HXN : Hid (bx ≠ N) := by
    have := (Array.getElem?_eq_some_iff.1 hX).1
    show bx ≠ N; omega
  have HY := hide hY
  have HBY := hide hby
  have HYN : Hid (by_ ≠ N) := by
    have := (Array.getElem?_eq_some_iff.1 hY).1
    show by_ ≠ N; omega
  have HXY := hide hxy
  clear hV hwb hrb hgr hxr hVW hlen hwk hN hX hbx hY hby hxy
  go_enter Try.func44, Try.ntmps44
  go_upto_region 9 with (first
    | ((with_reducible refine wpList_alloc_row (by rfl) 63 (by rfl) (some 9) (by rfl) N (unhide HN).symm #[.string ⟨#[]⟩, .int .i64 0, .string ⟨#[]⟩, .int .i64 0, .int .u8 0] zeroTo ?_); intro W1 HN1 HB1 HS1; simp only [Act.put, List.setIfInBounds_toArray, List.set_cons_zero, List.set_cons_succ]; have HX1 := hide (((unhide HB1).block bx (by have := (Array.getElem?_eq_some_iff.1 (unhide HX)).1; have := unhide HXN; have e1 := unhide HN; omega)).trans (unhide HX)); have HY1 := hide (((unhide HB1).block by_ (by have := (Array.getElem?_eq_some_iff.1 (unhide HY)).1; have e1 := unhide HN; omega)).trans (unhide HY)); clear HN)
    | ((with_reducible refine wpList_store_to (by rfl) (.tmp 9) (.tmp 11) (by rfl) N key 0 ⟨#[]⟩ 0 0 (by with_unfolding_all rfl) (by with_unfolding_all rfl) ⟨#[]⟩ 0 ⟨#[]⟩ 0 0 (unhide HN1) ?_); intro W2 HN2 HE2; simp only [Act.put]; have hs2 : St1 W1 W2 N (.cells #[.string key, .int .i64 0, .string ⟨#[]⟩, .int .i64 0, .int .u8 0] 63 (0, 0)) := (by rw [unhide HE2]; exact St1.row W1 N (unhide HN1) _); have HF2 : Hid (Below V.heap.size V W2) := hs2.below ((unhide HVW).trans ((unhide HB1).mono (unhide HVN))) (unhide HVN); have HG2 : Hid (Below V.heap.size W W2) := hs2.below ((unhide HB1).mono (unhide HVN)) (unhide HVN); have HX2 := hide (hs2.keep (unhide HX1) (unhide HXN)); have HY2 := hide (hs2.keep (unhide HY1) (unhide HYN)); obtain ⟨n0, n1, n2, n3, n4⟩ := row5 (unhide HN2); obtain ⟨x0, x1⟩ := box2 (unhide HX2); have y0 := cell_one (unhide HY2); clear hs2 HE2)
    | ((with_reducible refine wpList_store_ci (by rfl) 3 (.tmp 14) (.const (.int .i64 1)) (by rfl) (by rfl) N 1 .i64 1 (by with_unfolding_all rfl) (by with_unfolding_all rfl) #[.string key, .int .i64 0, .string ⟨#[]⟩, .int .i64 0, .int .u8 0] 63 (unhide HN2) (by simp) intInfo #[.string key, .int .i64 1, .string ⟨#[]⟩, .int .i64 0, .int .u8 0] (by with_unfolding_all rfl) ?_); intro W3 hs; replace hs := unhide hs; have HF3 : Hid (Below V.heap.size V W3) := hs.below (unhide HF2) (unhide HVN); have HG3 : Hid (Below V.heap.size W W3) := hs.below (unhide HG2) (unhide HVN); have HN3 := hide hs.new; have HX3 := hide (hs.keep (unhide HX2) (unhide HXN)); have HY3 := hide (hs.keep (unhide HY2) (unhide HYN)); obtain ⟨n0, n1, n2, n3, n4⟩ := row5 (unhide HN3); obtain ⟨x0, x1⟩ := box2 (unhide HX3); have y0 := cell_one (unhide HY3); have g0 := cell_one ((unhide HV).below (unhide HF3)).box; have w0 := cell_one (box_below (unhide HWB) (unhide HF3)); clear hs HF2 HG2 HN2 HX2 HY2)
    | ((with_reducible refine wpList_store_c2 (by rfl) 57 (.tmp 18) (.tmp 17) (by rfl) (by rfl) N 2 xk xn (by with_unfolding_all rfl) (by with_unfolding_all rfl) #[.string key, .int .i64 1, .string ⟨#[]⟩, .int .i64 0, .int .u8 0] 63 (unhide HN3) (by simp) itInfo #[.string key, .int .i64 1, .string xk, .int .i64 xn, .int .u8 0] (by with_unfolding_all rfl) ?_); intro W4 hs; replace hs := unhide hs; have HF4 : Hid (Below V.heap.size V W4) := hs.below (unhide HF3) (unhide HVN); have HG4 : Hid (Below V.heap.size W W4) := hs.below (unhide HG3) (unhide HVN); have HN4 := hide hs.new; have HX4 := hide (hs.keep (unhide HX3) (unhide HXN)); have HY4 := hide (hs.keep (unhide HY3) (unhide HYN)); obtain ⟨n0, n1, n2, n3, n4⟩ := row5 (unhide HN4); obtain ⟨x0, x1⟩ := box2 (unhide HX4); have y0 := cell_one (unhide HY4); have g0 := cell_one ((unhide HV).below (unhide HF4)).box; have w0 := cell_one (box_below (unhide HWB) (unhide HF4)); clear hs HF3 HG3 HN3 HX3 HY3)
    | ((with_reducible refine wpList_store_c2 (by rfl) 57 (.tmp 21) (.tmp 20) (by rfl) (by rfl) bx 0 spW 0 (by with_unfolding_all rfl) (by with_unfolding_all rfl) #[.string xk, .int .i64 xn] 57 (unhide HX4) (by simp) itInfo #[.string spW, .int .i64 0] (by with_unfolding_all rfl) ?_); intro W5 hs; replace hs := unhide hs; have HF5 : Hid (Below V.heap.size V W5) := hs.below (unhide HF4) (unhide HBX); have HG5 : Hid (Below V.heap.size W W5) := hs.below (unhide HG4) (unhide HBX); have HN5 := hide (hs.keep (unhide HN4) (fun e => unhide HXN e.symm)); have HX5 := hide hs.new; have HY5 := hide (hs.keep (unhide HY4) (fun e => unhide HXY e.symm)); obtain ⟨n0, n1, n2, n3, n4⟩ := row5 (unhide HN5); obtain ⟨x0, x1⟩ := box2 (unhide HX5); have y0 := cell_one (unhide HY5); have g0 := cell_one ((unhide HV).below (unhide HF5)).box; have w0 := cell_one (box_below (unhide HWB) (unhide HF5)); clear hs HF4 HG4 HN4 HX4 HY4)
    | ((with_reducible refine wpList_store_ci (by rfl) 3 (.tmp 27) (.tmp 26) (by rfl) (by rfl) N 1 .i64 3 (by with_unfolding_all rfl) (by with_unfolding_all rfl) #[.string key, .int .i64 1, .string xk, .int .i64 xn, .int .u8 0] 63 (unhide HN5) (by simp) intInfo #[.string key, .int .i64 3, .string xk, .int .i64 xn, .int .u8 0] (by with_unfolding_all rfl) ?_); intro W6 hs; replace hs := unhide hs; have HF6 : Hid (Below V.heap.size V W6) := hs.below (unhide HF5) (unhide HVN); have HG6 : Hid (Below V.heap.size W W6) := hs.below (unhide HG5) (unhide HVN); have HN6 := hide hs.new; have HX6 := hide (hs.keep (unhide HX5) (unhide HXN)); have HY6 := hide (hs.keep (unhide HY5) (unhide HYN)); obtain ⟨n0, n1, n2, n3, n4⟩ := row5 (unhide HN6); obtain ⟨x0, x1⟩ := box2 (unhide HX6); have y0 := cell_one (unhide HY6); have g0 := cell_one ((unhide HV).below (unhide HF6)).box; have w0 := cell_one (box_below (unhide HWB) (unhide HF6)); clear hs HF5 HG5 HN5 HX5 HY5)
    | ((with_reducible refine wpList_store_ci (by rfl) 5 (.tmp 31) (.tmp 30) (by rfl) (by rfl) N 4 .u8 (y.toNat : Int) (by with_unfolding_all rfl) (by with_unfolding_all rfl) #[.string key, .int .i64 3, .string xk, .int .i64 xn, .int .u8 0] 63 (unhide HN6) (by simp) u8Info #[.string key, .int .i64 3, .string xk, .int .i64 xn, .int .u8 (y.toNat : Int)] (by with_unfolding_all rfl) ?_); intro W7 hs; replace hs := unhide hs; have HF7 : Hid (Below V.heap.size V W7) := hs.below (unhide HF6) (unhide HVN); have HG7 : Hid (Below V.heap.size W W7) := hs.below (unhide HG6) (unhide HVN); have HN7 := hide hs.new; have HX7 := hide (hs.keep (unhide HX6) (unhide HXN)); have HY7 := hide (hs.keep (unhide HY6) (unhide HYN)); obtain ⟨n0, n1, n2, n3, n4⟩ := row5 (unhide HN7); obtain ⟨x0, x1⟩ := box2 (unhide HX7); have y0 := cell_one (unhide HY7); have g0 := cell_one ((unhide HV).below (unhide HF7)).box; have w0 := cell_one (box_below (unhide HWB) (unhide HF7)); clear hs HF6 HG6 HN6 HX6 HY6)
    | ((with_reducible refine wpList_store_ci (by rfl) 5 (.tmp 33) (.const (.int .u8 99)) (by rfl) (by rfl) by_ 0 .u8 99 (by with_unfolding_all rfl) (by with_unfolding_all rfl) #[.int .u8 (y.toNat : Int)] 5 (unhide HY7) (by simp) u8Info #[.int .u8 99] (by with_unfolding_all rfl) ?_); intro W8 hs; replace hs := unhide hs; have HF8 : Hid (Below V.heap.size V W8) := hs.below (unhide HF7) (unhide HBY); have HG8 : Hid (Below V.heap.size W W8) := hs.below (unhide HG7) (unhide HBY); have HN8 := hide (hs.keep (unhide HN7) (fun e => unhide HYN e.symm)); have HX8 := hide (hs.keep (unhide HX7) (unhide HXY)); have HY8 := hide hs.new; obtain ⟨n0, n1, n2, n3, n4⟩ := row5 (unhide HN8); obtain ⟨x0, x1⟩ := box2 (unhide HX8); have y0 := cell_one (unhide HY8); have g0 := cell_one ((unhide HV).below (unhide HF8)).box; have w0 := cell_one (box_below (unhide HWB) (unhide HF8)); clear hs HF7 HG7 HN7 HX7 HY7)
    | fail)
  have hcmp : (gn : Int) > (wk : Int) := by omega
  obtain ⟨n0, n1, n2, n3, n4⟩ := row5 (unhide HN8)
  have g0 := cell_one ((unhide HV).below (unhide HF8)).box
  have w0 := cell_one (box_below (unhide HWB) (unhide HF8))
  go_wp2_with (first
    | ((with_reducible refine wpList_store_cb (by rfl) 4 (.tmp 5) (.const (.bool false)) (by rfl) (by rfl) rb false (by with_unfolding_all rfl) (by with_unfolding_all rfl) _ _ (box_below (unhide HRB) (unhide HF8)) boolInfo ?_); intro W20 hs; replace hs := unhide hs; have HS20 := hide hs; clear hs)
    | fail)
  go_returns
  have hgo : go ≤ V.heap.size := Nat.le_of_succ_le (unhide HGO)
  have hv20 := (unhide HV).below (unhide HF8)
  refine ⟨rfl, ⟨xo, gn, gc, ⟨(unhide HS20).keep hv20.box (fun e => by have := unhide HGR; omega), hv20.hn, own_keep hv20.own fun g hg => (unhide HS20).other g fun e => ?_⟩, (unhide HS20).new, unhide HXR⟩, (unhide HS20).below ((unhide HG8).mono hgo) (Nat.le_of_lt (unhide HGR))⟩
  cases xo with
  | none => cases hg
  | some ad => exact unhide HXR ad rfl ((Option.some.inj hg).trans e)
end Go.Proofs.Ytbahlfpcbplofaa.S
