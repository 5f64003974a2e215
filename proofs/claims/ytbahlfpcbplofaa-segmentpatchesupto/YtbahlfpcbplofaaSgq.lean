/- Segments: Diff, Put, Take of the program. Written by mksgq.py. -/
import Derived.Test.YtbahlfpcbplofaaSgo
namespace Go.Proofs.Ytbahlfpcbplofaa.S
open Go.RowKit Go.Lib
/- differences in memory -/
abbrev Df := ByteArray × ByteArray × ByteArray
def dcs (x : Df) : List Value := [.string x.1, .string x.2.1, .string x.2.2]
def RD : Rec Try.prog Df where
  st := 35
  et := 41
  n := 3
  bts := 48
  cs := dcs
  hn := by decide
  len := fun _ => rfl
  one := fun x v hv => by
    simp only [dcs, List.mem_cons, List.not_mem_nil, or_false] at hv
    rcases hv with rfl | rfl | rfl <;> rfl
  und := by kernel_rfl
  info := by
    have h : (Try.prog.info? 41).map (fun i => (i.zero, i.size, i.bytes)) = some (some (.agg #[.string ⟨#[]⟩, .string ⟨#[]⟩, .string ⟨#[]⟩]), 3, 48) := by kernel_rfl
    obtain ⟨i, hi, h2⟩ := Option.map_eq_some_iff.1 h
    simp only [Prod.mk.injEq] at h2
    exact ⟨i, _, hi, h2.1, rfl, h2.2.1, h2.2.2⟩
  pos := by decide
def dfRow (a b c : ByteArray) : Obj := .cells #[.string a, .string b, .string c] 41 (0, 0)
theorem zeroDf : ((Try.prog.info? 41).bind (·.zero)).map (·.cells) = some #[.string ⟨#[]⟩, .string ⟨#[]⟩, .string ⟨#[]⟩] := by kernel_rfl
theorem dfInfo : (Try.prog.info? 41).map (·.size) = some 3 := by kernel_rfl
theorem df_one (a b c : ByteArray) : (#[.string a, .string b, .string c] : Array Value).all (·.oneCell') = true := by
  rw [Array.all_eq_true']
  intro v hv
  simp only [List.mem_toArray, List.mem_cons, List.not_mem_nil, or_false] at hv
  rcases hv with rfl | rfl | rfl <;> rfl
theorem wpList_alloc_df {ops : Array Oper} {rest : List Oper} {o : Oper} {a : Act} {w : World} {Q : Exit → Act → World → Prop} (hg : o.guard = none) (ho : o.op = .alloc 41) (d : Option Tmp) (hd : o.dst = d) (N : Nat) (hN : N = w.heap.size)
    (h : ∀ w', Hid (w'.heap[N]? = some (dfRow ⟨#[]⟩ ⟨#[]⟩ ⟨#[]⟩)) → Hid (Below N w w') → Hid (w'.heap.size = N + 1) → wpList Try.prog ops Q rest (a.put d (.pointer (some ⟨N, 0, none⟩))) w') : wpList Try.prog ops Q (o :: rest) a w :=
  wpList_alloc_row hg _ ho d hd N hN.symm _ zeroDf h
theorem wpList_store_df {ops : Array Oper} {rest : List Oper} {o : Oper} {a : Act} {w : World} {Q : Exit → Act → World → Prop} (hgd : o.guard = none) (x y : Operand) (ho : o.op = .store 41 x y) (g : Nat) (k z r : ByteArray) (hx : a.eval x = .pointer (some ⟨g, 0, none⟩)) (hy : a.eval y = .agg #[.string k, .string z, .string r])
    (k0 z0 r0 : ByteArray) (hg : w.heap[g]? = some (dfRow k0 z0 r0))
    (h : ∀ w', Hid (w'.heap[g]? = some (dfRow k z r)) → Hid (w' = w.setRow g #[.string k, .string z, .string r]) → wpList Try.prog ops Q rest (a.put o.dst undef) w') : wpList Try.prog ops Q (o :: rest) a w :=
  wpList_store_hid hgd _ x y ho g _ hx hy _ _ hg dfInfo rfl (df_one _ _ _) h
theorem wpList_putD {ops : Array Oper} {rest : List Oper} {o : Oper} {a : Act} {w : World} {Q : Exit → Act → World → Prop} (hgd : o.guard = none) (s x : Operand) (ho : o.op = .call { callee := .builtin .append, args := #[s, x], argTypes := #[35, 35] }) (d : Option Tmp) (hd : o.dst = d)
    (B : Nat) (l m : List Df) (n1 n2 : Nat) (e1 : n1 = l.length) (e2 : n2 = m.length) (ao bo : Option Addr) (c c2 : Nat) (hs : a.eval s = .slice ao n1 c) (hx : a.eval x = .slice bo n2 c2) (hown : RD.Own w B l ao c) (hm : RD.At w m bo c2) (hl : (l.length + m.length) * 48 ≤ 140737488355328) (hB : B ≤ w.heap.size)
    (h : ∀ ao' n' c' w', Hid (RD.Put w w' B l m ao c ao' n' c') → wpList Try.prog ops Q rest (a.put d (.slice ao' n' c')) w') : wpList Try.prog ops Q (o :: rest) a w :=
  RD.wpList_put hgd s x ho d hd B l m n1 n2 e1 e2 ao bo c c2 hs hx hown hm hl hB h
theorem RD.one (W : World) (e : Df) (t : TypeId) : RD.At (W.alloc (.cells #[.string e.1, .string e.2.1, .string e.2.2] t)) [e] (some ⟨W.heap.size, 0, none⟩) 1 :=
  ⟨fun _ => ⟨_, 0, rfl, fun j v hv => by
    have h1 : (W.alloc (.cells #[.string e.1, .string e.2.1, .string e.2.2] t)).heap[W.heap.size]? = some (.cells #[.string e.1, .string e.2.1, .string e.2.2] t (0, 0)) := heap_alloc_new _ _
    simp only [World.cell?, h1, Nat.zero_add]
    simpa [Rec.flat, RD, dcs] using hv⟩, by simp, (fun e => by cases e), by simp⟩
/-- a list of one's own in a variable -/
structure Rec.Var {α : Type} (R : Rec Try.prog α) (W : World) (go : Nat) (l : List α) (ao : Option Addr) (n c : Nat) : Prop where
  box : W.heap[go]? = some (.cells #[.slice ao n c] R.st (0, 0))
  hn : n = l.length
  own : R.Own W (go + 1) l ao c
theorem Rec.Var.below {α : Type} {R : Rec Try.prog α} {W W' : World} {go : Nat} {l : List α} {ao : Option Addr} {n c : Nat} (h : R.Var W go l ao n c) (hb : Below W.heap.size W W') : R.Var W' go l ao n c := ⟨box_below h.box hb, h.hn, h.own.below hb⟩
theorem Rec.Var.lt {α : Type} {R : Rec Try.prog α} {W : World} {go : Nat} {l : List α} {ao : Option Addr} {n c : Nat} (h : R.Var W go l ao n c) : go < W.heap.size := (Array.getElem?_eq_some_iff.1 h.box).1
theorem Rec.Var.frz {α : Type} {R : Rec Try.prog α} {W : World} {go : Nat} {l : List α} {ao : Option Addr} {n c : Nat} (h : R.Var W go l ao n c) : W.frozen? ⟨go, 0, none⟩ = false := by simp [World.frozen?, h.box]
/-- what was appended is laid into the variable -/
theorem Rec.Var.put {α : Type} {R : Rec Try.prog α} {W W' : World} {go : Nat} {l m : List α} {ao ao' : Option Addr} {n c n' c' : Nat} (h : R.Var W go l ao n c) (hp : R.Put W W' (go + 1) l m ao c ao' n' c') : W'.heap[go]? = some (.cells #[.slice ao n c] R.st (0, 0)) ∧ R.Var (W'.setCell ⟨go, 0, none⟩ (.slice ao' n' c')) go (l ++ m) ao' n' c' := by
  have hb : W'.heap[go]? = some (.cells #[.slice ao n c] R.st (0, 0)) := (hp.below.block go (Nat.lt_succ_self _)).trans h.box
  refine ⟨hb, D.heapCell_same hb 0 _, hp.len, own_keep hp.own fun g hg => ?_⟩
  have := (World.ownsRow.lt hp.own g hg).1
  exact Below.heap_setCell W' ⟨go, 0, none⟩ _ g (by show g ≠ go; omega)
/- the closures -/
def sm (x : Option En) : ByteArray := match x with | none => eB | some e => e.2
/-- a pointer to an entry, or to none -/
def Pt (W : World) (x : Option En) (v : Value) : Prop := match x with | none => v = .pointer none | some e => ∃ b, v = .pointer (some ⟨b, 0, none⟩) ∧ W.heap[b]? = some (.cells #[.string e.1, .string e.2] 43 (0, 0))
theorem Pt.below {W W' : World} {x : Option En} {v : Value} (h : Pt W x v) (hb : Below W.heap.size W W') : Pt W' x v := by
  cases x with
  | none => exact h
  | some e => obtain ⟨b, h1, h2⟩ := h; exact ⟨b, h1, box_below h2 hb⟩
theorem sSumOf (x : Option En) (v : Value) (W : World) (h : Pt W x v) : Calls Try.prog 73 #[v] W fun e W' => e = .returned (.string (sm x)) ∧ W' = W := by
  cases x with
  | none =>
    obtain rfl : v = .pointer none := h
    rw [show sm none = ⟨#[]⟩ from rfl]
    go_enter Try.func73, Try.ntmps73
    go_wp2
    go_ret
    exact ⟨rfl, rfl⟩
  | some e =>
    obtain ⟨b, rfl, hb⟩ := h
    obtain ⟨c0, c1⟩ := box2 hb
    rw [show sm (some e) = e.2 from rfl]
    obtain ⟨ek, es⟩ := e
    have c1 : W.cell? ⟨b, 1, none⟩ = some (.string es) := c1
    clear hb c0
    go_enter Try.func73, Try.ntmps73
    go_wp2
    go_ret
    exact ⟨rfl, rfl⟩
def dif1 (t : Tell En En) : List Df := if sm t.2.1 = sm t.2.2 then [] else [(t.1, sm t.2.1, sm t.2.2)]
set_option maxRecDepth 100000 in
set_option maxHeartbeats 4000000 in
theorem dEach (k : ByteArray) (x y : Option En) (vx vy : Value) (W : World) (go : Nat) (l : List Df) (ao : Option Addr) (n c : Nat) (h : RD.Var W go l ao n c) (hx : Pt W x vx) (hy : Pt W y vy) (hl : l.length ≤ 1099511627776) : Calls Try.prog 72 (#[.string k, vx, vy] ++ #[.pointer (some ⟨go, 0, none⟩)]) W fun e W' => e = .returned (.tuple #[]) ∧ (∃ ao' n' c', RD.Var W' go (l ++ dif1 (k, x, y)) ao' n' c') ∧ Below go W W' := by
  show Calls Try.prog 72 #[.string k, vx, vy, .pointer (some ⟨go, 0, none⟩)] W _
  have H1 := hide (sSumOf x vx W hx)
  have H2 := hide (sSumOf y vy W hy)
  have HV := hide h
  have HLT : Hid (go + 1 ≤ W.heap.size) := h.lt
  have hll : (l.length + 1) * 48 ≤ 140737488355328 := by omega
  have HLL : Hid ((l.length + [(k, sm x, sm y)].length) * 48 ≤ 140737488355328) := hll
  have HD : Hid (dif1 (k, x, y) = if sm x = sm y then [] else [(k, sm x, sm y)]) := rfl
  generalize dif1 (k, x, y) = dd at *
  generalize sm x = p at *
  generalize sm y = q at *
  obtain ⟨M, hM⟩ : ∃ M, M = W.heap.size := ⟨_, rfl⟩
  have HM := hide hM
  have HBG : Hid (go ≤ M) := by rw [hM]; exact Nat.le_of_succ_le (unhide HLT)
  clear h hx hy hl hll hM
  by_cases hpq : p = q
  · have hbe : (p.toList == q.toList) = true := by rw [hpq]; simp
    have hbn : (p.toList != q.toList) = false := by rw [hpq]; simp
    have heq : p.toList = q.toList := by rw [hpq]
    have HDD : Hid (dd = []) := by rw [unhide HD, if_pos hpq]; exact rfl
    clear HD hpq
    go_enter Try.func72, Try.ntmps72
    go_wp2_with (first
      | (go_at_call_of 73 vx; refine (unhide H1).mono ?_; rintro e W1 ⟨rfl, rfl⟩)
      | (go_at_call 73; refine (unhide H2).mono ?_; rintro e W2 ⟨rfl, rfl⟩)
      | ((with_reducible refine wpList_alloc_df (by rfl) (by rfl) (some 7) (by rfl) M (unhide HM) ?_); intro X1 HX1 HBX1 HSX1; simp only [Act.put, List.setIfInBounds_toArray, List.set_cons_zero, List.set_cons_succ])
      | ((with_reducible refine wpList_store_df (by rfl) (.tmp 7) (.tmp 13) (by rfl) M k p q (by with_unfolding_all rfl) (by with_unfolding_all rfl) _ _ _ (unhide HX1) ?_); intro X2 HX2 HE2; simp only [Act.put]; obtain ⟨y0, y1, y2⟩ := box3 (unhide HX2))
      | fail)
    go_returns
    have HB2 : Hid (Below M W2 X2) := by rw [unhide HE2]; exact belowRow (unhide HBX1) (Nat.le_refl _) _
    refine ⟨rfl, ⟨ao, n, c, ?_⟩, (unhide HB2).mono (unhide HBG)⟩
    rw [unhide HDD, List.append_nil]
    exact (unhide HV).below (by rw [← unhide HM]; exact unhide HB2)
  · have hbe : (p.toList == q.toList) = false := by rw [ba_beq]; exact decide_eq_false hpq
    have hbn : (p.toList != q.toList) = true := by simpa using hbe
    have heq : ¬ p.toList = q.toList := fun e => hpq (ba_list e)
    have HDD : Hid (dd = [(k, p, q)]) := by rw [unhide HD, if_neg hpq]; exact rfl
    clear HD hpq
    have HRN := hide (unhide HV).hn
    have HST : Hid (∀ G : World, RD.Var G go l ao n c → G.cell? ⟨go, 0, none⟩ = some (.slice ao n c)) := fun G hG => cell_one hG.box
    go_enter Try.func72, Try.ntmps72
    go_wp2_with (first
      | (go_at_call_of 73 vx; refine (unhide H1).mono ?_; rintro e W1 ⟨rfl, rfl⟩)
      | (go_at_call 73; refine (unhide H2).mono ?_; rintro e W2 ⟨rfl, rfl⟩)
      | ((with_reducible refine wpList_alloc_df (by rfl) (by rfl) (some 7) (by rfl) M (unhide HM) ?_); intro X1 HX1 HBX1 HSX1; simp only [Act.put, List.setIfInBounds_toArray, List.set_cons_zero, List.set_cons_succ])
      | ((with_reducible refine wpList_store_df (by rfl) (.tmp 7) (.tmp 13) (by rfl) M k p q (by with_unfolding_all rfl) (by with_unfolding_all rfl) _ _ _ (unhide HX1) ?_); intro X2 HX2 HE2; simp only [Act.put]; obtain ⟨y0, y1, y2⟩ := box3 (unhide HX2); have HB2 : Hid (Below W2.heap.size W2 X2) := (by rw [unhide HE2, ← unhide HM]; exact belowRow (unhide HBX1) (Nat.le_refl _) _); have HV2 := hide ((unhide HV).below (unhide HB2)); have hc2 := unhide HST X2 (unhide HV2); have HV3 : Hid (RD.Var (X2.alloc (.cells #[.string k, .string p, .string q] 41)) go l ao n c) := (unhide HV2).below ((Below.refl _ _).alloc (Nat.le_refl _) _); have HA3 : Hid (RD.At (X2.alloc (.cells #[.string k, .string p, .string q] 41)) [(k, p, q)] (some ⟨X2.heap.size, 0, none⟩) 1) := RD.one X2 (k, p, q) _; have HS3 : Hid (go + 1 ≤ (X2.alloc (.cells #[.string k, .string p, .string q] 41)).heap.size) := (unhide HV3).lt; have HB3 : Hid (Below W2.heap.size W2 (X2.alloc (.cells #[.string k, .string p, .string q] 41))) := (unhide HB2).alloc (unhide HB2).size _)
      | (at_builtin; (with_reducible refine wpList_putD (by rfl) (.tmp 19) (.tmp 21) (by rfl) (some 22) (by rfl) (go + 1) l [(k, p, q)] n 1 (unhide HRN) rfl ao (some ⟨X2.heap.size, 0, none⟩) c 1 (by with_unfolding_all rfl) (by with_unfolding_all rfl) (unhide HV3).own (unhide HA3) (unhide HLL) (unhide HS3) ?_); intro x4 n4 c4 W4 HP4; simp only [Act.put, List.setIfInBounds_toArray, List.set_cons_zero, List.set_cons_succ]; have HN4 := hide ((unhide HV3).put (unhide HP4)); have hc4 := cell_one (unhide HN4).1; have hf4 : W4.frozen? ⟨go, 0, none⟩ = false := (by simp [World.frozen?, (unhide HN4).1]))
      | fail)
    go_returns
    refine ⟨rfl, ⟨x4, n4, c4, by rw [unhide HDD]; exact (unhide HN4).2⟩, ?_⟩
    have h1 : Below go W2 W4 := ((unhide HB3).mono (Nat.le_of_succ_le (unhide HLT))).trans ((unhide HP4).below.mono (Nat.le_succ _))
    exact D.belowCell h1 (p := ⟨go, 0, none⟩) (Nat.le_refl _) _
/-- what an append into a variable leaves -/
structure Kp (W W' : World) (go : Nat) (ao ao' : Option Addr) : Prop where
  keep : ∀ j, j < W.heap.size → j ≠ go → (∀ ad : Addr, ao = some ad → ad.block ≠ j) → W'.heap[j]? = W.heap[j]?
  newb : ∀ ad' : Addr, ao' = some ad' → (∃ ad : Addr, ao = some ad ∧ ad.block = ad'.block) ∨ W.heap.size ≤ ad'.block
theorem bsE (W : World) (x y : ByteArray) : (Instr.buildSlice 27 1 #[(0, .agg #[.string x, .string y])]).run Try.prog W = .ok (.slice (some ⟨W.heap.size, 0, none⟩) 1 1) (W.alloc (.cells #[.string x, .string y] 43)) := by kernel_rfl
theorem slInfo : (Try.prog.info? 27).map (·.size) = some 1 := by kernel_rfl
theorem wp_store_slv {P : Program} {o : Oper} {a : Act} {w : World} {K : Act → World → Prop} {Q : Exit → Act → World → Prop} (ty : TypeId) (x y : Operand) (ho : o.op = .store ty x y) (hd : o.dst = none) (b : Nat) (ao : Option Addr) (n c : Nat) (hx : a.eval x = .pointer (some ⟨b, 0, none⟩)) (hy : a.eval y = .slice ao n c)
    (v : Value) (t : TypeId) (hg : w.heap[b]? = some (.cells #[v] t (0, 0))) (hi : (P.info? ty).map (·.size) = some 1)
    (h : K a (w.setCell ⟨b, 0, none⟩ (.slice ao n c))) : o.wp P a w K Q := by
  have h1 : (storeVar ty ⟨b, 0, none⟩ (.slice ao n c)).run P w = .ok () (w.setCells b 0 [.slice ao n c]) := run_storeVar_mid (P := P) w b 0 ty #[.slice ao n c] (there_box hg) hi (by simp [Value.oneCell'])
  unfold Oper.wp execOp
  simp only [ho, hx, hy, Instr.storeAt, Instr.sureAddr, Sem.run_bind, Sem.run_pure, Result.andThen_ok, h1]
  exact (show K (a.put o.dst undef) _ by rw [hd]; exact h)
set_option maxRecDepth 100000 in
set_option maxHeartbeats 4000000 in
theorem pEachY (k ek es : ByteArray) (b : Nat) (vx : Value) (W : World) (go : Nat) (l : List En) (ao : Option Addr) (n c : Nat) (h : RE.Var W go l ao n c) (hx : W.heap[b]? = some (.cells #[.string ek, .string es] 43 (0, 0))) (hnb : ∀ ad : Addr, ao = some ad → ad.block ≠ b) (hl : l.length ≤ 4398046511000) : Calls Try.prog 74 (#[.string k, vx, .pointer (some ⟨b, 0, none⟩)] ++ #[.pointer (some ⟨go, 0, none⟩)]) W fun e W' => e = .returned (.tuple #[]) ∧ (∃ ao' n' c', RE.Var W' go (l ++ [(ek, es)]) ao' n' c' ∧ Kp W W' go ao ao') ∧ Below go W W' := by
  show Calls Try.prog 74 #[.string k, vx, .pointer (some ⟨b, 0, none⟩), .pointer (some ⟨go, 0, none⟩)] W _
  have hmix : Try.prog.follows .mixedOrders = true := by kernel_rfl
  have HV := hide h
  have HX := hide hx
  have HNB := hide hnb
  have HLT : Hid (go + 1 ≤ W.heap.size) := h.lt
  have hll : (l.length + 1) * 32 ≤ 140737488355328 := by omega
  have HLL : Hid ((l.length + [(ek, es)].length) * 32 ≤ 140737488355328) := hll
  have HRN := hide h.hn
  clear h hx hl hll hnb
  go_enter Try.func74, Try.ntmps74
  go_wp2_with fail
  refine wp_region_last (fun G => G.heap[go]? = some (.cells #[.slice ao n c] 27 (0, 0)) ∧ G.heap[b]? = some (.cells #[.string ek, .string es] 43 (0, 0))) 6 hmix ⟨(unhide HV).box, unhide HX⟩ fun hS => ?_
  have HB0 : Hid (Below W.heap.size W W.drew) := belowDrew (Below.refl _ _)
  generalize W.drew = X0 at hS HB0 ⊢
  refine wpAnyL_take 0 10 (.slice ao n c) [] rfl rfl (by kernel_rfl) (by kernel_rfl) (by kernel_rfl) (by kernel_rfl) (by kernel_rfl) (fun _ _ _ h => h) (by rfl) (fun G hG => by have e0 := cell_one hG.1; go_simp) hS ?_
  simp only [Act.put, List.setIfInBounds_toArray, List.set_cons_zero, List.set_cons_succ]
  refine wpAnyL_take 1 11 (.pointer (some ⟨b, 0, none⟩)) [] rfl rfl (by kernel_rfl) (by kernel_rfl) (by kernel_rfl) (by kernel_rfl) (by kernel_rfl) (fun _ _ _ h => h) (by rfl) (fun _ _ => by go_simp) hS ?_
  simp only [Act.put, List.setIfInBounds_toArray, List.set_cons_zero, List.set_cons_succ]
  refine wpAnyL_take 2 12 (.pointer (some ⟨b, 0, none⟩)) [] rfl rfl (by kernel_rfl) (by kernel_rfl) (by kernel_rfl) (by kernel_rfl) (by kernel_rfl) (fun _ _ _ h => h) (by rfl) (fun _ _ => by go_simp) hS ?_
  simp only [Act.put, List.setIfInBounds_toArray, List.set_cons_zero, List.set_cons_succ]
  refine wpAnyL_take 3 13 (.agg #[.string ek, .string es]) [] rfl rfl (by kernel_rfl) (by kernel_rfl) (by kernel_rfl) (by kernel_rfl) (by kernel_rfl) (fun _ _ _ h => h) (by rfl) (fun G hG => by obtain ⟨e0, e1⟩ := box2 hG.2; go_simp) hS ?_
  simp only [Act.put, List.setIfInBounds_toArray, List.set_cons_zero, List.set_cons_succ]
  refine wpAnyL_one (i := 4) (by kernel_rfl) rfl (by rfl) fun K hK => ?_
  refine wp_buildTo (by rfl) (.slice (some ⟨X0.heap.size, 0, none⟩) 1 1) (X0.alloc (.cells #[.string ek, .string es] 43)) (by simp only [List.map_toArray, List.map_cons, List.map_nil]; exact bsE X0 ek es) (some 14) (by rfl) ?_
  have HB1 : Hid (Below W.heap.size W (X0.alloc (.cells #[.string ek, .string es] 43))) := (unhide HB0).alloc (unhide HB0).size _
  have HV1 : Hid (RE.Var (X0.alloc (.cells #[.string ek, .string es] 43)) go l ao n c) := (unhide HV).below (unhide HB1)
  have HE1 : Hid ((X0.alloc (.cells #[.string ek, .string es] 43)).heap[b]? = some (.cells #[.string ek, .string es] 43 (0, 0))) := box_below (unhide HX) (unhide HB1)
  have HA1 : Hid (RE.At (X0.alloc (.cells #[.string ek, .string es] 43)) [(ek, es)] (some ⟨X0.heap.size, 0, none⟩) 1) := RE.one X0 (ek, es) _
  have HS1 : Hid (go + 1 ≤ (X0.alloc (.cells #[.string ek, .string es] 43)).heap.size) := (unhide HV1).lt
  refine hK _ _ (fun _ => ⟨(unhide HV1).box, unhide HE1⟩) ?_
  clear hK K
  simp only [Act.put, List.setIfInBounds_toArray, List.set_cons_zero, List.set_cons_succ]
  generalize X0.alloc (.cells #[.string ek, .string es] 43) = X1 at HB1 HV1 HA1 HS1 HE1 ⊢
  refine wpAnyL_one (i := 5) (by kernel_rfl) rfl (by rfl) fun K hK => ?_
  refine wp_putE (.tmp 10) (.tmp 14) (by rfl) (some 15) (by rfl) (go + 1) l [(ek, es)] n 1 (unhide HRN) rfl ao (some ⟨X0.heap.size, 0, none⟩) c 1 (by with_unfolding_all rfl) (by with_unfolding_all rfl) (unhide HV1).own (unhide HA1) (unhide HLL) (unhide HS1) ?_
  intro x4 n4 c4 W4 HP4
  have HN4 := hide ((unhide HV1).put (unhide HP4))
  have HB4 : Hid (Below go W W4) := ((unhide HB1).mono (Nat.le_of_succ_le (unhide HLT))).trans ((unhide HP4).below.mono (Nat.le_succ _))
  have HE4 : Hid (W4.heap[b]? = some (.cells #[.string ek, .string es] 43 (0, 0))) := by
    obtain ⟨_, _, _, _, g5⟩ := (unhide HP4).grown
    refine (g5 b (Array.getElem?_eq_some_iff.1 (unhide HE1)).1 fun e => ?_).trans (unhide HE1)
    cases ao with
    | none => cases e
    | some ad => exact unhide HNB ad rfl (Option.some.inj e).symm
  refine hK _ _ (fun _ => ⟨(unhide HN4).1, unhide HE4⟩) ?_
  clear hK K
  simp only [Act.put, List.setIfInBounds_toArray, List.set_cons_zero, List.set_cons_succ]
  refine wpAnyL_one (i := 6) (by kernel_rfl) rfl (by rfl) fun K hK => ?_
  refine wp_store_slv 27 (.tmp 3) (.tmp 15) (by rfl) (by rfl) go x4 n4 c4 (by with_unfolding_all rfl) (by with_unfolding_all rfl) _ _ (unhide HN4).1 slInfo ?_
  refine hK _ _ (fun h => absurd rfl h) ?_
  clear hK K
  refine wpAnyL_done (by kernel_rfl) ?_ _
  go_returns
  refine ⟨rfl, ⟨x4, n4, c4, (unhide HN4).2, ?_⟩, ?_⟩
  · refine ⟨fun j hj h1 h2 => ?_, fun ad' e => ?_⟩
    · obtain ⟨_, _, _, _, g5⟩ := (unhide HP4).grown
      refine (Below.heap_setCell W4 ⟨go, 0, none⟩ _ j h1).trans ((g5 j (Nat.lt_of_lt_of_le hj (unhide HB1).size) fun e => ?_).trans ((unhide HB1).block j hj))
      cases ao with
      | none => cases e
      | some ad => exact h2 ad rfl (Option.some.inj e).symm
    · obtain ⟨g, rfl⟩ := own_addr (unhide HP4).own ad' e
      rcases (unhide HP4).new g 0 e with ⟨o', h⟩ | h
      · exact .inl ⟨_, h, rfl⟩
      · exact .inr (Nat.le_trans (unhide HB1).size h)
  · exact D.belowCell (unhide HB4) (p := ⟨go, 0, none⟩) (Nat.le_refl _) _
set_option maxRecDepth 100000 in
set_option maxHeartbeats 4000000 in
theorem pEachX (k ek es : ByteArray) (b : Nat) (W : World) (go : Nat) (l : List En) (ao : Option Addr) (n c : Nat) (h : RE.Var W go l ao n c) (hx : W.heap[b]? = some (.cells #[.string ek, .string es] 43 (0, 0))) (hnb : ∀ ad : Addr, ao = some ad → ad.block ≠ b) (hl : l.length ≤ 4398046511000) : Calls Try.prog 74 (#[.string k, .pointer (some ⟨b, 0, none⟩), .pointer none] ++ #[.pointer (some ⟨go, 0, none⟩)]) W fun e W' => e = .returned (.tuple #[]) ∧ (∃ ao' n' c', RE.Var W' go (l ++ [(ek, es)]) ao' n' c' ∧ Kp W W' go ao ao') ∧ Below go W W' := by
  show Calls Try.prog 74 #[.string k, .pointer (some ⟨b, 0, none⟩), .pointer none, .pointer (some ⟨go, 0, none⟩)] W _
  have hmix : Try.prog.follows .mixedOrders = true := by kernel_rfl
  have HV := hide h
  have HX := hide hx
  have HNB := hide hnb
  have HLT : Hid (go + 1 ≤ W.heap.size) := h.lt
  have hll : (l.length + 1) * 32 ≤ 140737488355328 := by omega
  have HLL : Hid ((l.length + [(ek, es)].length) * 32 ≤ 140737488355328) := hll
  have HRN := hide h.hn
  clear h hx hl hll hnb
  go_enter Try.func74, Try.ntmps74
  go_wp2_with fail
  refine wp_region_last (fun G => G.heap[go]? = some (.cells #[.slice ao n c] 27 (0, 0)) ∧ G.heap[b]? = some (.cells #[.string ek, .string es] 43 (0, 0))) 6 hmix ⟨(unhide HV).box, unhide HX⟩ fun hS => ?_
  have HB0 : Hid (Below W.heap.size W W.drew) := belowDrew (Below.refl _ _)
  generalize W.drew = X0 at hS HB0 ⊢
  refine wpAnyL_take 0 10 (.slice ao n c) [] rfl rfl (by kernel_rfl) (by kernel_rfl) (by kernel_rfl) (by kernel_rfl) (by kernel_rfl) (fun _ _ _ h => h) (by rfl) (fun G hG => by have e0 := cell_one hG.1; go_simp) hS ?_
  simp only [Act.put, List.setIfInBounds_toArray, List.set_cons_zero, List.set_cons_succ]
  refine wpAnyL_take 1 11 (.pointer (some ⟨b, 0, none⟩)) [] rfl rfl (by kernel_rfl) (by kernel_rfl) (by kernel_rfl) (by kernel_rfl) (by kernel_rfl) (fun _ _ _ h => h) (by rfl) (fun _ _ => by go_simp) hS ?_
  simp only [Act.put, List.setIfInBounds_toArray, List.set_cons_zero, List.set_cons_succ]
  refine wpAnyL_take 2 12 (.pointer (some ⟨b, 0, none⟩)) [] rfl rfl (by kernel_rfl) (by kernel_rfl) (by kernel_rfl) (by kernel_rfl) (by kernel_rfl) (fun _ _ _ h => h) (by rfl) (fun _ _ => by go_simp) hS ?_
  simp only [Act.put, List.setIfInBounds_toArray, List.set_cons_zero, List.set_cons_succ]
  refine wpAnyL_take 3 13 (.agg #[.string ek, .string es]) [] rfl rfl (by kernel_rfl) (by kernel_rfl) (by kernel_rfl) (by kernel_rfl) (by kernel_rfl) (fun _ _ _ h => h) (by rfl) (fun G hG => by obtain ⟨e0, e1⟩ := box2 hG.2; go_simp) hS ?_
  simp only [Act.put, List.setIfInBounds_toArray, List.set_cons_zero, List.set_cons_succ]
  refine wpAnyL_one (i := 4) (by kernel_rfl) rfl (by rfl) fun K hK => ?_
  refine wp_buildTo (by rfl) (.slice (some ⟨X0.heap.size, 0, none⟩) 1 1) (X0.alloc (.cells #[.string ek, .string es] 43)) (by simp only [List.map_toArray, List.map_cons, List.map_nil]; exact bsE X0 ek es) (some 14) (by rfl) ?_
  have HB1 : Hid (Below W.heap.size W (X0.alloc (.cells #[.string ek, .string es] 43))) := (unhide HB0).alloc (unhide HB0).size _
  have HV1 : Hid (RE.Var (X0.alloc (.cells #[.string ek, .string es] 43)) go l ao n c) := (unhide HV).below (unhide HB1)
  have HE1 : Hid ((X0.alloc (.cells #[.string ek, .string es] 43)).heap[b]? = some (.cells #[.string ek, .string es] 43 (0, 0))) := box_below (unhide HX) (unhide HB1)
  have HA1 : Hid (RE.At (X0.alloc (.cells #[.string ek, .string es] 43)) [(ek, es)] (some ⟨X0.heap.size, 0, none⟩) 1) := RE.one X0 (ek, es) _
  have HS1 : Hid (go + 1 ≤ (X0.alloc (.cells #[.string ek, .string es] 43)).heap.size) := (unhide HV1).lt
  refine hK _ _ (fun _ => ⟨(unhide HV1).box, unhide HE1⟩) ?_
  clear hK K
  simp only [Act.put, List.setIfInBounds_toArray, List.set_cons_zero, List.set_cons_succ]
  generalize X0.alloc (.cells #[.string ek, .string es] 43) = X1 at HB1 HV1 HA1 HS1 HE1 ⊢
  refine wpAnyL_one (i := 5) (by kernel_rfl) rfl (by rfl) fun K hK => ?_
  refine wp_putE (.tmp 10) (.tmp 14) (by rfl) (some 15) (by rfl) (go + 1) l [(ek, es)] n 1 (unhide HRN) rfl ao (some ⟨X0.heap.size, 0, none⟩) c 1 (by with_unfolding_all rfl) (by with_unfolding_all rfl) (unhide HV1).own (unhide HA1) (unhide HLL) (unhide HS1) ?_
  intro x4 n4 c4 W4 HP4
  have HN4 := hide ((unhide HV1).put (unhide HP4))
  have HB4 : Hid (Below go W W4) := ((unhide HB1).mono (Nat.le_of_succ_le (unhide HLT))).trans ((unhide HP4).below.mono (Nat.le_succ _))
  have HE4 : Hid (W4.heap[b]? = some (.cells #[.string ek, .string es] 43 (0, 0))) := by
    obtain ⟨_, _, _, _, g5⟩ := (unhide HP4).grown
    refine (g5 b (Array.getElem?_eq_some_iff.1 (unhide HE1)).1 fun e => ?_).trans (unhide HE1)
    cases ao with
    | none => cases e
    | some ad => exact unhide HNB ad rfl (Option.some.inj e).symm
  refine hK _ _ (fun _ => ⟨(unhide HN4).1, unhide HE4⟩) ?_
  clear hK K
  simp only [Act.put, List.setIfInBounds_toArray, List.set_cons_zero, List.set_cons_succ]
  refine wpAnyL_one (i := 6) (by kernel_rfl) rfl (by rfl) fun K hK => ?_
  refine wp_store_slv 27 (.tmp 3) (.tmp 15) (by rfl) (by rfl) go x4 n4 c4 (by with_unfolding_all rfl) (by with_unfolding_all rfl) _ _ (unhide HN4).1 slInfo ?_
  refine hK _ _ (fun h => absurd rfl h) ?_
  clear hK K
  refine wpAnyL_done (by kernel_rfl) ?_ _
  go_returns
  refine ⟨rfl, ⟨x4, n4, c4, (unhide HN4).2, ?_⟩, ?_⟩
  · refine ⟨fun j hj h1 h2 => ?_, fun ad' e => ?_⟩
    · obtain ⟨_, _, _, _, g5⟩ := (unhide HP4).grown
      refine (Below.heap_setCell W4 ⟨go, 0, none⟩ _ j h1).trans ((g5 j (Nat.lt_of_lt_of_le hj (unhide HB1).size) fun e => ?_).trans ((unhide HB1).block j hj))
      cases ao with
      | none => cases e
      | some ad => exact h2 ad rfl (Option.some.inj e).symm
    · obtain ⟨g, rfl⟩ := own_addr (unhide HP4).own ad' e
      rcases (unhide HP4).new g 0 e with ⟨o', h⟩ | h
      · exact .inl ⟨_, h, rfl⟩
      · exact .inr (Nat.le_trans (unhide HB1).size h)
  · exact D.belowCell (unhide HB4) (p := ⟨go, 0, none⟩) (Nat.le_refl _) _
set_option maxRecDepth 100000 in
set_option maxHeartbeats 4000000 in
theorem tEachX (k ek es : ByteArray) (b : Nat) (W : World) (go : Nat) (l : List En) (ao : Option Addr) (n c : Nat) (h : RE.Var W go l ao n c) (hx : W.heap[b]? = some (.cells #[.string ek, .string es] 43 (0, 0))) (hnb : ∀ ad : Addr, ao = some ad → ad.block ≠ b) (hl : l.length ≤ 4398046511000) : Calls Try.prog 78 (#[.string k, .pointer (some ⟨b, 0, none⟩), .pointer none] ++ #[.pointer (some ⟨go, 0, none⟩)]) W fun e W' => e = .returned (.tuple #[]) ∧ (∃ ao' n' c', RE.Var W' go (l ++ [(ek, es)]) ao' n' c' ∧ Kp W W' go ao ao') ∧ Below go W W' := by
  show Calls Try.prog 78 #[.string k, .pointer (some ⟨b, 0, none⟩), .pointer none, .pointer (some ⟨go, 0, none⟩)] W _
  have hmix : Try.prog.follows .mixedOrders = true := by kernel_rfl
  have HV := hide h
  have HX := hide hx
  have HNB := hide hnb
  have HLT : Hid (go + 1 ≤ W.heap.size) := h.lt
  have hll : (l.length + 1) * 32 ≤ 140737488355328 := by omega
  have HLL : Hid ((l.length + [(ek, es)].length) * 32 ≤ 140737488355328) := hll
  have HRN := hide h.hn
  clear h hx hl hll hnb
  go_enter Try.func78, Try.ntmps78
  go_wp2_with fail
  refine wp_region_last (fun G => G.heap[go]? = some (.cells #[.slice ao n c] 27 (0, 0)) ∧ G.heap[b]? = some (.cells #[.string ek, .string es] 43 (0, 0))) 6 hmix ⟨(unhide HV).box, unhide HX⟩ fun hS => ?_
  have HB0 : Hid (Below W.heap.size W W.drew) := belowDrew (Below.refl _ _)
  generalize W.drew = X0 at hS HB0 ⊢
  refine wpAnyL_take 0 9 (.slice ao n c) [] rfl rfl (by kernel_rfl) (by kernel_rfl) (by kernel_rfl) (by kernel_rfl) (by kernel_rfl) (fun _ _ _ h => h) (by rfl) (fun G hG => by have e0 := cell_one hG.1; go_simp) hS ?_
  simp only [Act.put, List.setIfInBounds_toArray, List.set_cons_zero, List.set_cons_succ]
  refine wpAnyL_take 1 10 (.pointer (some ⟨b, 0, none⟩)) [] rfl rfl (by kernel_rfl) (by kernel_rfl) (by kernel_rfl) (by kernel_rfl) (by kernel_rfl) (fun _ _ _ h => h) (by rfl) (fun _ _ => by go_simp) hS ?_
  simp only [Act.put, List.setIfInBounds_toArray, List.set_cons_zero, List.set_cons_succ]
  refine wpAnyL_take 2 11 (.pointer (some ⟨b, 0, none⟩)) [] rfl rfl (by kernel_rfl) (by kernel_rfl) (by kernel_rfl) (by kernel_rfl) (by kernel_rfl) (fun _ _ _ h => h) (by rfl) (fun _ _ => by go_simp) hS ?_
  simp only [Act.put, List.setIfInBounds_toArray, List.set_cons_zero, List.set_cons_succ]
  refine wpAnyL_take 3 12 (.agg #[.string ek, .string es]) [] rfl rfl (by kernel_rfl) (by kernel_rfl) (by kernel_rfl) (by kernel_rfl) (by kernel_rfl) (fun _ _ _ h => h) (by rfl) (fun G hG => by obtain ⟨e0, e1⟩ := box2 hG.2; go_simp) hS ?_
  simp only [Act.put, List.setIfInBounds_toArray, List.set_cons_zero, List.set_cons_succ]
  refine wpAnyL_one (i := 4) (by kernel_rfl) rfl (by rfl) fun K hK => ?_
  refine wp_buildTo (by rfl) (.slice (some ⟨X0.heap.size, 0, none⟩) 1 1) (X0.alloc (.cells #[.string ek, .string es] 43)) (by simp only [List.map_toArray, List.map_cons, List.map_nil]; exact bsE X0 ek es) (some 13) (by rfl) ?_
  have HB1 : Hid (Below W.heap.size W (X0.alloc (.cells #[.string ek, .string es] 43))) := (unhide HB0).alloc (unhide HB0).size _
  have HV1 : Hid (RE.Var (X0.alloc (.cells #[.string ek, .string es] 43)) go l ao n c) := (unhide HV).below (unhide HB1)
  have HE1 : Hid ((X0.alloc (.cells #[.string ek, .string es] 43)).heap[b]? = some (.cells #[.string ek, .string es] 43 (0, 0))) := box_below (unhide HX) (unhide HB1)
  have HA1 : Hid (RE.At (X0.alloc (.cells #[.string ek, .string es] 43)) [(ek, es)] (some ⟨X0.heap.size, 0, none⟩) 1) := RE.one X0 (ek, es) _
  have HS1 : Hid (go + 1 ≤ (X0.alloc (.cells #[.string ek, .string es] 43)).heap.size) := (unhide HV1).lt
  refine hK _ _ (fun _ => ⟨(unhide HV1).box, unhide HE1⟩) ?_
  clear hK K
  simp only [Act.put, List.setIfInBounds_toArray, List.set_cons_zero, List.set_cons_succ]
  generalize X0.alloc (.cells #[.string ek, .string es] 43) = X1 at HB1 HV1 HA1 HS1 HE1 ⊢
  refine wpAnyL_one (i := 5) (by kernel_rfl) rfl (by rfl) fun K hK => ?_
  refine wp_putE (.tmp 9) (.tmp 13) (by rfl) (some 14) (by rfl) (go + 1) l [(ek, es)] n 1 (unhide HRN) rfl ao (some ⟨X0.heap.size, 0, none⟩) c 1 (by with_unfolding_all rfl) (by with_unfolding_all rfl) (unhide HV1).own (unhide HA1) (unhide HLL) (unhide HS1) ?_
  intro x4 n4 c4 W4 HP4
  have HN4 := hide ((unhide HV1).put (unhide HP4))
  have HB4 : Hid (Below go W W4) := ((unhide HB1).mono (Nat.le_of_succ_le (unhide HLT))).trans ((unhide HP4).below.mono (Nat.le_succ _))
  have HE4 : Hid (W4.heap[b]? = some (.cells #[.string ek, .string es] 43 (0, 0))) := by
    obtain ⟨_, _, _, _, g5⟩ := (unhide HP4).grown
    refine (g5 b (Array.getElem?_eq_some_iff.1 (unhide HE1)).1 fun e => ?_).trans (unhide HE1)
    cases ao with
    | none => cases e
    | some ad => exact unhide HNB ad rfl (Option.some.inj e).symm
  refine hK _ _ (fun _ => ⟨(unhide HN4).1, unhide HE4⟩) ?_
  clear hK K
  simp only [Act.put, List.setIfInBounds_toArray, List.set_cons_zero, List.set_cons_succ]
  refine wpAnyL_one (i := 6) (by kernel_rfl) rfl (by rfl) fun K hK => ?_
  refine wp_store_slv 27 (.tmp 3) (.tmp 14) (by rfl) (by rfl) go x4 n4 c4 (by with_unfolding_all rfl) (by with_unfolding_all rfl) _ _ (unhide HN4).1 slInfo ?_
  refine hK _ _ (fun h => absurd rfl h) ?_
  clear hK K
  refine wpAnyL_done (by kernel_rfl) ?_ _
  go_returns
  refine ⟨rfl, ⟨x4, n4, c4, (unhide HN4).2, ?_⟩, ?_⟩
  · refine ⟨fun j hj h1 h2 => ?_, fun ad' e => ?_⟩
    · obtain ⟨_, _, _, _, g5⟩ := (unhide HP4).grown
      refine (Below.heap_setCell W4 ⟨go, 0, none⟩ _ j h1).trans ((g5 j (Nat.lt_of_lt_of_le hj (unhide HB1).size) fun e => ?_).trans ((unhide HB1).block j hj))
      cases ao with
      | none => cases e
      | some ad => exact h2 ad rfl (Option.some.inj e).symm
    · obtain ⟨g, rfl⟩ := own_addr (unhide HP4).own ad' e
      rcases (unhide HP4).new g 0 e with ⟨o', h⟩ | h
      · exact .inl ⟨_, h, rfl⟩
      · exact .inr (Nat.le_trans (unhide HB1).size h)
  · exact D.belowCell (unhide HB4) (p := ⟨go, 0, none⟩) (Nat.le_refl _) _
theorem tEachY (k : ByteArray) (vx : Value) (b : Nat) (W : World) (go : Nat) : Calls Try.prog 78 (#[.string k, vx, .pointer (some ⟨b, 0, none⟩)] ++ #[.pointer (some ⟨go, 0, none⟩)]) W fun e W' => e = .returned (.tuple #[]) ∧ W' = W := by
  show Calls Try.prog 78 #[.string k, vx, .pointer (some ⟨b, 0, none⟩), .pointer (some ⟨go, 0, none⟩)] W _
  go_enter Try.func78, Try.ntmps78
  go_wp2
  go_returns
  exact ⟨rfl, rfl⟩
theorem sKeyOf (x : En) (W : World) : Calls Try.prog 71 #[.agg #[.string x.1, .string x.2]] W fun e W' => e = .returned (.string x.1) ∧ Below W.heap.size W W' := by
  obtain ⟨k, s⟩ := x
  show Calls Try.prog 71 #[.agg #[.string k, .string s]] W fun e W' => e = .returned (.string k) ∧ Below W.heap.size W W'
  obtain ⟨N, hN⟩ : ∃ N, N = W.heap.size := ⟨_, rfl⟩
  have HN := hide hN
  rw [← hN]
  clear hN
  go_enter Try.func71, Try.ntmps71
  go_wp2_with (first
    | ((with_reducible refine wpList_box_en (by rfl) (.tmp 0) (by rfl) (some 1) (by rfl) N (unhide HN) k s (by with_unfolding_all rfl) ?_); intro W1 HX1 HB1 HS1; simp only [Act.put, List.setIfInBounds_toArray, List.set_cons_zero, List.set_cons_succ]; obtain ⟨c0, c1⟩ := en_cells (unhide HX1))
    | fail)
  go_ret
  exact ⟨rfl, unhide HB1⟩
theorem sItself (x : ByteArray) (W : World) : Calls Try.prog 77 #[.string x] W fun e W' => e = .returned (.string x) ∧ Below W.heap.size W W' := by
  go_enter Try.func77, Try.ntmps77
  go_wp2
  go_ret
  exact ⟨rfl, Below.refl _ _⟩
end Go.Proofs.Ytbahlfpcbplofaa.S
