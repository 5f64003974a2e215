/- The walk of SegmentMerges. Written by mkshm.py. -/
import Derived.Test.YtbahlfpcbplofaaShk
import Derived.Test.YtbahlfpcbplofaaShl
import Derived.Test.YtbahlfpcbplofaaSgt
import Derived.Laws.BytesArg
import Derived.Deep.DeepCutAuto
namespace Go.Proofs.Ytbahlfpcbplofaa.S
open Go.RowKit Go.Lib
/- without a function -/
theorem mNilL (v0 v1 : Value) (G E : FuncId) (caps : Array Value) (W : World) : Calls Try.prog 41 #[v0, v1, .nilFunc, .func (.func G) #[] #[], .func (.func E) #[] caps] W fun e W' => e = .returned (.tuple #[]) ∧ W' = W := by
  have q1 : ∀ u : World, (binOp .eql 58 .nilFunc .nilFunc).run Try.prog u = .ok (.bool true) u := fun _ => by kernel_rfl
  have q2 : ∀ (lb : Array Value) (u : World), (binOp .eql 59 (.func (.func G) #[] lb) .nilFunc).run Try.prog u = .ok (.bool false) u := fun _ _ => by kernel_rfl
  have q3 : ∀ (lb : Array Value) (u : World), (binOp .eql 64 (.func (.func E) #[] lb) .nilFunc).run Try.prog u = .ok (.bool false) u := fun _ _ => by kernel_rfl
  go_enter Try.func41, Try.ntmps41
  go_wp2
  go_returns
  exact ⟨rfl, rfl⟩
theorem mNilR (v0 v1 : Value) (F E : FuncId) (caps : Array Value) (W : World) : Calls Try.prog 41 #[v0, v1, .func (.func F) #[] #[], .nilFunc, .func (.func E) #[] caps] W fun e W' => e = .returned (.tuple #[]) ∧ W' = W := by
  have q1 : ∀ (lb : Array Value) (u : World), (binOp .eql 58 (.func (.func F) #[] lb) .nilFunc).run Try.prog u = .ok (.bool false) u := fun _ _ => by kernel_rfl
  have q2 : ∀ u : World, (binOp .eql 59 .nilFunc .nilFunc).run Try.prog u = .ok (.bool true) u := fun _ => by kernel_rfl
  have q3 : ∀ (lb : Array Value) (u : World), (binOp .eql 64 (.func (.func E) #[] lb) .nilFunc).run Try.prog u = .ok (.bool false) u := fun _ _ => by kernel_rfl
  go_enter Try.func41, Try.ntmps41
  go_wp2
  go_returns
  exact ⟨rfl, rfl⟩
theorem mNilE (v0 v1 : Value) (F G : FuncId) (W : World) : Calls Try.prog 41 #[v0, v1, .func (.func F) #[] #[], .func (.func G) #[] #[], .nilFunc] W fun e W' => e = .returned (.tuple #[]) ∧ W' = W := by
  have q1 : ∀ (lb : Array Value) (u : World), (binOp .eql 58 (.func (.func F) #[] lb) .nilFunc).run Try.prog u = .ok (.bool false) u := fun _ _ => by kernel_rfl
  have q2 : ∀ (lb : Array Value) (u : World), (binOp .eql 59 (.func (.func G) #[] lb) .nilFunc).run Try.prog u = .ok (.bool false) u := fun _ _ => by kernel_rfl
  have q3 : ∀ u : World, (binOp .eql 64 .nilFunc .nilFunc).run Try.prog u = .ok (.bool true) u := fun _ => by kernel_rfl
  go_enter Try.func41, Try.ntmps41
  go_wp2
  go_returns
  exact ⟨rfl, rfl⟩
/- what Merge tells the closure -/
def IC (go wb rb : Nat) (wo : Option Addr) (wk wc : Nat) (ts : List (Tell It UInt8)) (W : World) : Prop :=
  W.heap[wb]? = some (.cells #[.slice wo wk wc] 53 (0, 0)) ∧ ((ts.length ≤ wk + 1 ∧ CE W go rb (ts.map toL) true) ∨ (wk + 1 < ts.length ∧ ∃ (gl : List To) (r : Bool), gl.length = wk + 1 ∧ CE W go rb gl r))
theorem entEA : ∀ args (w : World), (callFunc 44 args).run Try.prog w = .ok (.enter 44 args) w := by
  intro args w
  go_simp
theorem lTold (a : List It) (b : List UInt8) (ao bo : Option Addr) (n m c d : Nat) (u U : World) (ha : Il u a ao n c) (hb : Ul u b bo m d) (h0 : Below u.heap.size u U) (go wb rb : Nat) (wo : Option Addr) (wk wc : Nat) (hgo : u.heap.size ≤ go) (hwg : wb < go) (hgr : go < rb) (hwb : U.heap[wb]? = some (.cells #[.slice wo wk wc] 53 (0, 0))) (hce : CE U go rb [] true) (hwk : wk = (mgI a b).length) (hlim : wk ≤ 4398046511) :
    Calls Try.prog 41 #[.slice ao n c, .slice bo m d, .func (.func 42) #[] #[], .func (.func 43) #[] #[], .func (.func 44) #[] #[.pointer (some ⟨go, 0, none⟩), .pointer (some ⟨wb, 0, none⟩), .pointer (some ⟨rb, 0, none⟩)]] U fun e W' => e = .returned (.tuple #[]) ∧ CE W' go rb ((mgI a b).map toL) true ∧ Below go U W' := by
  have hS1 : ∀ W, Below go U W → Below u.heap.size u W := fun W hW => h0.trans (hW.mono hgo)
  have hgU : go ≤ U.heap.size := by
    obtain ⟨_, _, _, hv, _⟩ := hce
    exact Nat.le_of_succ_le hv.lt
  have hwbW : ∀ W, Below go U W → W.heap[wb]? = some (.cells #[.slice wo wk wc] 53 (0, 0)) := fun W hW => (hW.block wb hwg).trans hwb
  have hmap : ∀ (ts : List (Tell It UInt8)) (t : Tell It UInt8), (ts ++ [t]).map toL = ts.map toL ++ [toL t] := fun ts t => by simp
  refine (mrgI a b ao bo n m c d (fun W => Below go U W) (fun W hW => ⟨ha.below (hS1 W hW), hb.below (hS1 W hW)⟩) (fun W W' h1 h2 => h1.trans (h2.mono (Nat.le_trans hgU h1.size))) 42 43 44 _ (fun x : It => x.1) dg ⟨entKA, lKeyA⟩ ⟨entDG, fun y W => (lDigit y W).mono fun e W' ⟨h1, h2⟩ => ⟨h1, by rw [h2]; exact Below.refl _ _⟩⟩ entEA (IC go wb rb wo wk wc) ?_ ?_ ?_ U (Below.refl _ _) ⟨hwb, .inl ⟨Nat.zero_le _, hce⟩⟩).mono ?_
  · rintro ts x bx V W hI hlt hVW hS hbx hX
    obtain ⟨hw, hc⟩ := hI
    have hkeep : ∀ W', Below go W W' → W'.heap[wb]? = some (.cells #[.slice wo wk wc] 53 (0, 0)) := fun W' hW => (hW.block wb hwg).trans (hwbW W hS)
    rcases hc with ⟨hl, xo, gn, gc, hv, hr, hx0⟩ | ⟨hl, gl, r, hgl, xo, gn, gc, hv, hr, hx0⟩
    · by_cases hf : ts.length ≤ wk
      · refine (cEachX x.1 bx x.1 x.2 V W go wb rb (ts.map toL) xo gn gc wo wk wc hv hw hr hgr hx0 hVW hbx hX (by rw [List.length_map]; exact hf) hlim).mono ?_
        rintro e W' ⟨he, hce', hb'⟩
        refine ⟨he, ⟨hkeep W' hb', .inl ⟨by rw [List.length_append, List.length_singleton]; omega, ?_⟩⟩, hS.trans hb'⟩
        rw [hmap, toL_l]; exact hce'
      · refine (cEachXN x.1 bx x.1 x.2 V W go wb rb (ts.map toL) xo gn gc wo wk wc true hv hw hr hgr hx0 hVW hbx hX (by rw [List.length_map]; omega) hlim).mono ?_
        rintro e W' ⟨he, hce', hb'⟩
        exact ⟨he, ⟨hkeep W' hb', .inr ⟨by rw [List.length_append, List.length_singleton]; omega, _, _, by rw [List.length_map]; omega, hce'⟩⟩, hS.trans hb'⟩
    · refine (cEachXN x.1 bx x.1 x.2 V W go wb rb gl xo gn gc wo wk wc r hv hw hr hgr hx0 hVW hbx hX hgl hlim).mono ?_
      rintro e W' ⟨he, hce', hb'⟩
      exact ⟨he, ⟨hkeep W' hb', .inr ⟨by rw [List.length_append, List.length_singleton]; omega, gl, false, hgl, hce'⟩⟩, hS.trans hb'⟩
  · rintro ts y by_ V W hI hlt hVW hS hby hY
    obtain ⟨hw, hc⟩ := hI
    have hkeep : ∀ W', Below go W W' → W'.heap[wb]? = some (.cells #[.slice wo wk wc] 53 (0, 0)) := fun W' hW => (hW.block wb hwg).trans (hwbW W hS)
    rcases hc with ⟨hl, xo, gn, gc, hv, hr, hx0⟩ | ⟨hl, gl, r, hgl, xo, gn, gc, hv, hr, hx0⟩
    · by_cases hf : ts.length ≤ wk
      · refine (cEachY (dg y) by_ y V W go wb rb (ts.map toL) xo gn gc wo wk wc hv hw hr hgr hx0 hVW hby hY (by rw [List.length_map]; exact hf) hlim).mono ?_
        rintro e W' ⟨he, hce', hb'⟩
        refine ⟨he, ⟨hkeep W' hb', .inl ⟨by rw [List.length_append, List.length_singleton]; omega, ?_⟩⟩, hS.trans hb'⟩
        rw [hmap, toL_r]; exact hce'
      · refine (cEachYN (dg y) by_ y V W go wb rb (ts.map toL) xo gn gc wo wk wc true hv hw hr hgr hx0 hVW hby hY (by rw [List.length_map]; omega) hlim).mono ?_
        rintro e W' ⟨he, hce', hb'⟩
        exact ⟨he, ⟨hkeep W' hb', .inr ⟨by rw [List.length_append, List.length_singleton]; omega, _, _, by rw [List.length_map]; omega, hce'⟩⟩, hS.trans hb'⟩
    · refine (cEachYN (dg y) by_ y V W go wb rb gl xo gn gc wo wk wc r hv hw hr hgr hx0 hVW hby hY hgl hlim).mono ?_
      rintro e W' ⟨he, hce', hb'⟩
      exact ⟨he, ⟨hkeep W' hb', .inr ⟨by rw [List.length_append, List.length_singleton]; omega, gl, false, hgl, hce'⟩⟩, hS.trans hb'⟩
  · rintro ts x y bx by_ V W hI hlt hVW hS hbx hby hxy hX hY
    obtain ⟨hw, hc⟩ := hI
    have hkeep : ∀ W', Below go W W' → W'.heap[wb]? = some (.cells #[.slice wo wk wc] 53 (0, 0)) := fun W' hW => (hW.block wb hwg).trans (hwbW W hS)
    rcases hc with ⟨hl, xo, gn, gc, hv, hr, hx0⟩ | ⟨hl, gl, r, hgl, xo, gn, gc, hv, hr, hx0⟩
    · by_cases hf : ts.length ≤ wk
      · refine (cEachXY x.1 bx x.1 x.2 by_ y V W go wb rb (ts.map toL) xo gn gc wo wk wc hv hw hr hgr hx0 hVW hbx hX hby hY hxy (by rw [List.length_map]; exact hf) hlim).mono ?_
        rintro e W' ⟨he, hce', hb'⟩
        refine ⟨he, ⟨hkeep W' hb', .inl ⟨by rw [List.length_append, List.length_singleton]; omega, ?_⟩⟩, hS.trans hb'⟩
        rw [hmap, toL_b]; exact hce'
      · refine (cEachXYN x.1 bx x.1 x.2 by_ y V W go wb rb (ts.map toL) xo gn gc wo wk wc true hv hw hr hgr hx0 hVW hbx hX hby hY hxy (by rw [List.length_map]; omega) hlim).mono ?_
        rintro e W' ⟨he, hce', hb'⟩
        exact ⟨he, ⟨hkeep W' hb', .inr ⟨by rw [List.length_append, List.length_singleton]; omega, _, _, by rw [List.length_map]; omega, hce'⟩⟩, hS.trans hb'⟩
    · refine (cEachXYN x.1 bx x.1 x.2 by_ y V W go wb rb gl xo gn gc wo wk wc r hv hw hr hgr hx0 hVW hbx hX hby hY hxy hgl hlim).mono ?_
      rintro e W' ⟨he, hce', hb'⟩
      exact ⟨he, ⟨hkeep W' hb', .inr ⟨by rw [List.length_append, List.length_singleton]; omega, gl, false, hgl, hce'⟩⟩, hS.trans hb'⟩
  · rintro e W' ⟨he, ⟨_, hc⟩, hS⟩
    refine ⟨he, ?_, hS⟩
    rcases hc with ⟨_, hc⟩ | ⟨hl, _⟩
    · exact hc
    · rw [← hwk] at hl; omega
/- copies -/
theorem empty_own {α : Type} (R : Rec Try.prog α) (W : World) (B : Nat) (hB : B ≤ W.heap.size) : R.Own (W.alloc (.cells #[] R.et)) B [] (some ⟨W.heap.size, 0, none⟩) 0 :=
  ⟨by simp [Rec.flat], .inr ⟨W.heap.size, 0, #[], rfl, hB, heap_alloc_new _ _, Nat.le_refl _, by simp, by simp, by simp [Rec.flat]⟩⟩
theorem put_below0 {α : Type} {R : Rec Try.prog α} {W W' : World} {l m : List α} {ao ao' : Option Addr} {c n' c' : Nat} (h : R.Put (W.alloc (.cells #[] R.et)) W' W.heap.size l m ao c ao' n' c') : Below W.heap.size W W' := ((Below.refl W.heap.size W).alloc (Nat.le_refl _) _).trans h.below
theorem wpList_putI {ops : Array Oper} {rest : List Oper} {o : Oper} {a : Act} {w : World} {Q : Exit → Act → World → Prop} (hgd : o.guard = none) (s x : Operand) (ho : o.op = .call { callee := .builtin .append, args := #[s, x], argTypes := #[51, 51] }) (d : Option Tmp) (hd : o.dst = d)
    (u : World) (l : List It) (n : Nat) (ao : Option Addr) (c : Nat) (hw : w = u.alloc (.cells #[] 57)) (hs : a.eval s = .slice (some ⟨u.heap.size, 0, none⟩) 0 0) (hx : a.eval x = .slice ao n c) (hl : Il u l ao n c) (hm : n ≤ 1099511627776)
    (h : ∀ ao' c' w', Hid (Il w' l ao' n c') → Hid (Below u.heap.size u w') → wpList Try.prog ops Q rest (a.put d (.slice ao' n c')) w') : wpList Try.prog ops Q (o :: rest) a w := by
  subst hw
  have hn := hl.hn
  refine RI.wpList_put hgd s x ho d hd u.heap.size [] l 0 n rfl hn _ ao 0 c hs hx (empty_own RI u _ (Nat.le_refl _)) (hl.below ((Below.refl _ _).alloc (Nat.le_refl _) _)).toAt ?_ (szNew u _) fun ao' n' c' w' hp => ?_
  · show (0 + l.length) * 24 ≤ _; omega
  · have hp := unhide hp
    have e : n' = n := hp.len.trans hn.symm
    subst e
    exact h ao' c' w' (hide ⟨hp.own.at hl.many, hn⟩) (hide (put_below0 (R := RI) hp))
theorem wpList_putU {ops : Array Oper} {rest : List Oper} {o : Oper} {a : Act} {w : World} {Q : Exit → Act → World → Prop} (hgd : o.guard = none) (s x : Operand) (ho : o.op = .call { callee := .builtin .append, args := #[s, x], argTypes := #[52, 52] }) (d : Option Tmp) (hd : o.dst = d)
    (u : World) (l : List UInt8) (n : Nat) (ao : Option Addr) (c : Nat) (hw : w = u.alloc (.cells #[] 5)) (hs : a.eval s = .slice (some ⟨u.heap.size, 0, none⟩) 0 0) (hx : a.eval x = .slice ao n c) (hl : Ul u l ao n c) (hm : n ≤ 1099511627776)
    (h : ∀ ao' c' w', Hid (Ul w' l ao' n c') → Hid (Below u.heap.size u w') → wpList Try.prog ops Q rest (a.put d (.slice ao' n c')) w') : wpList Try.prog ops Q (o :: rest) a w := by
  subst hw
  have hn := hl.hn
  refine RU.wpList_put hgd s x ho d hd u.heap.size [] l 0 n rfl hn _ ao 0 c hs hx (empty_own RU u _ (Nat.le_refl _)) (hl.below ((Below.refl _ _).alloc (Nat.le_refl _) _)).toAt ?_ (szNew u _) fun ao' n' c' w' hp => ?_
  · show (0 + l.length) * 1 ≤ _; omega
  · have hp := unhide hp
    have e : n' = n := hp.len.trans hn.symm
    subst e
    exact h ao' c' w' (hide ⟨hp.own.at hl.many, hn⟩) (hide (put_below0 (R := RU) hp))
theorem wpList_store_sl1 {P : Program} {ops : Array Oper} {rest : List Oper} {o : Oper} {a : Act} {w : World} {Q : Exit → Act → World → Prop} (hgd : o.guard = none) (ty : TypeId) (x y : Operand) (ho : o.op = .store ty x y) (hd : o.dst = none) (g : Nat) (ao : Option Addr) (n c : Nat) (hx : a.eval x = .pointer (some ⟨g, 0, none⟩)) (hy : a.eval y = .slice ao n c)
    (v : Value) (t : TypeId) (hg : w.heap[g]? = some (.cells #[v] t (0, 0))) (hi : (P.info? ty).map (·.size) = some 1)
    (h : ∀ w', Hid (St1 w w' g (.cells #[.slice ao n c] t (0, 0))) → wpList P ops Q rest a w') : wpList P ops Q (o :: rest) a w :=
  wpList_store_csl hgd ty x y ho hd g ao n c hx hy v t hg hi (h _ (St1.at w g 0 hg))
theorem convU {W : World} {l : List UInt8} {ao : Option Addr} {n c : Nat} (h : Ul W l ao n c) : (convert 52 9 (.slice ao n c)).run Try.prog W = .ok (.string ⟨l.toArray⟩) W := by
  cases ao with
  | none =>
    have hc := h.nil rfl
    have hl : l = [] := List.eq_nil_of_length_eq_zero (by have := h.cap; omega)
    rw [run_convert_bytes_nil (P := Try.prog) (w := W) 52 5 Try.underlying52 Try.underlying5 n c 9 Try.underlying9, hl]
    rfl
  | some ad =>
    rw [h.hn]
    refine run_convert_bytes_back (P := Try.prog) W 52 9 5 ad c l Try.underlying52 Try.underlying5 Try.underlying9 fun j hj => ?_
    obtain ⟨g, o, e, h1⟩ := h.toAt.get hj
    cases e
    have h2 := h1 0 _ rfl
    rw [Addr.add_mid]
    have e2 : o + j * 1 + 0 = o + j := by omega
    have h3 : W.cell? ⟨g, o + j * 1 + 0, none⟩ = some (.int .u8 (l[j].toNat : Int)) := h2
    rwa [e2] at h3
theorem zeroTs : ((Try.prog.info? 53).bind (·.zero)).map (·.cells) = some #[.slice none 0 0] := by kernel_rfl
theorem zeroBo : ((Try.prog.info? 4).bind (·.zero)).map (·.cells) = some #[.bool false] := by kernel_rfl
theorem zeroIn : ((Try.prog.info? 3).bind (·.zero)).map (·.cells) = some #[.int .i64 0] := by kernel_rfl
set_option maxRecDepth 100000 in
set_option maxHeartbeats 16000000 in
theorem merges14_walk (a : List It) (b : List UInt8) (ao bo : Option Addr) (n m c d : Nat) (u : World) (ha : Il u a ao n c) (hb : Ul u b bo m d) (hn : n ≤ 1048576) (hm : m ≤ 1048576) : Calls Try.prog 8 #[.slice ao n c, .slice bo m d] u fun e u' => e = .returned (.bool true) ∧ Below u.heap.size u u' := by
  have HA := hide ha
  have HB := hide hb
  have HNA := hide ha.hn
  have HNT : Hid (n ≤ 1099511627776) := Nat.le_trans hn (by decide)
  have HMT : Hid (m ≤ 1099511627776) := Nat.le_trans hm (by decide)
  have HNM : Hid (n + m ≤ 1099511627776) := by show n + m ≤ _; omega
  have hni : (n : Int) ≤ 1048576 := by omega
  obtain ⟨dl, hdl⟩ : ∃ dl, (mgI a b).map toL = dl := ⟨_, rfl⟩
  have HDL := hide hdl
  have HDK : Hid (dl.length ≤ 4398046511) := by
    rw [← hdl, List.length_map]
    have e2 := mrg_len (f := fun x : It => x.1) (g := dg) a b
    have e3 := ha.hn
    have e4 := hb.hn
    exact Nat.le_trans e2 (by omega)
  have HDM : Hid (dl.length ≤ 4398046511000) := Nat.le_trans (unhide HDK) (by decide)
  clear ha hb hn hm hdl
  go_enter Try.func8, Try.ntmps8
  go_upto_region 7 with (first
    | (at_builtin; (with_reducible refine wpList_putI (by rfl) (.tmp 13) (.tmp 14) (by rfl) (some 15) (by rfl) u a n ao c (by rfl) (by with_unfolding_all rfl) (by with_unfolding_all rfl) (unhide HA) (unhide HNT) ?_); intro x1 c1 W1 HI1 HB1; simp only [Act.put, List.setIfInBounds_toArray, List.set_cons_zero, List.set_cons_succ])
    | (at_builtin; (with_reducible refine wpList_putU (by rfl) (.tmp 16) (.tmp 17) (by rfl) (some 18) (by rfl) W1 b m bo d (by rfl) (by with_unfolding_all rfl) (by with_unfolding_all rfl) ((unhide HB).below (unhide HB1)) (unhide HMT) ?_); intro y2 c2 W2 HU2 HB2'; simp only [Act.put, List.setIfInBounds_toArray, List.set_cons_zero, List.set_cons_succ]; have HB2 : Hid (Below u.heap.size u W2) := Below.step (unhide HB1) (unhide HB2'); have HI2 := hide ((unhide HI1).below (unhide HB2')); have HMG := hide (lMerged a b ao bo n m c d W2 ((unhide HA).below (unhide HB2)) ((unhide HB).below (unhide HB2)) (unhide HNM) dl (unhide HDL)); clear HI1 HB2')
    | (go_at_call 40; refine (unhide HMG).mono ?_; rintro e W3 ⟨wo, wk, wc, rfl, hk, ho, hb⟩; have HB3 : Hid (Below u.heap.size u W3) := Below.step (unhide HB2) hb; have HI3 := hide ((unhide HI2).below hb); have HU3 := hide ((unhide HU2).below hb); have HWK : Hid (wk = dl.length) := hk; have HO3 : Hid (Ol W3 dl wo wk wc) := ⟨ho.at (unhide HDM), hk⟩; obtain ⟨wb, hwb⟩ : ∃ wb, wb = W3.heap.size := ⟨_, rfl⟩; have HWN := hide hwb; clear hb ho hk hwb HMG HI2 HU2)
    | ((with_reducible refine wpList_alloc_row (by rfl) 53 (by rfl) (some 7) (by rfl) wb (unhide HWN).symm #[.slice none 0 0] zeroTs ?_); intro W4 HX4 HB4 HS4; simp only [Act.put, List.setIfInBounds_toArray, List.set_cons_zero, List.set_cons_succ])
    | ((with_reducible refine wpList_store_sl1 (by rfl) 53 (.tmp 7) (.tmp 21) (by rfl) (by rfl) wb wo wk wc (by with_unfolding_all rfl) (by with_unfolding_all rfl) _ _ (unhide HX4) tosInfo ?_); intro W5 hs; replace hs := unhide hs; have HB5' : Hid (Below wb W3 W5) := hs.below (unhide HB4) (Nat.le_refl _); have HW5 := hide hs.new; have HS5 : Hid (W5.heap.size = wb + 1) := hs.size.trans (unhide HS4); have H35 : Hid (Below W3.heap.size W3 W5) := (by rw [← unhide HWN]; exact unhide HB5'); obtain ⟨go, hgo⟩ : ∃ go, go = W5.heap.size := ⟨_, rfl⟩; have HGN := hide hgo; clear hs hgo HX4 HB4 HS4 HB5')
    | ((with_reducible refine wpList_alloc_row (by rfl) 53 (by rfl) (some 8) (by rfl) go (unhide HGN).symm #[.slice none 0 0] zeroTs ?_); intro W6 HX6 HB6 HS6; simp only [Act.put, List.setIfInBounds_toArray, List.set_cons_zero, List.set_cons_succ]; obtain ⟨rb, hrb⟩ : ∃ rb, rb = W6.heap.size := ⟨_, rfl⟩; have HRN := hide hrb; clear hrb)
    | ((with_reducible refine wpList_alloc_row (by rfl) 4 (by rfl) (some 9) (by rfl) rb (unhide HRN).symm #[.bool false] zeroBo ?_); intro W7 HX7 HB7 HS7; simp only [Act.put, List.setIfInBounds_toArray, List.set_cons_zero, List.set_cons_succ])
    | ((with_reducible refine wpList_store_cb (by rfl) 4 (.tmp 9) (.const (.bool true)) (by rfl) (by rfl) rb true (by with_unfolding_all rfl) (by with_unfolding_all rfl) _ _ (unhide HX7) boolInfo ?_); intro W8 hs; replace hs := unhide hs; have hB8 : Below rb W6 W8 := hs.below (unhide HB7) (Nat.le_refl _); have HGR : Hid (go < rb) := (by have h1 := unhide HS6; have h2 := unhide HRN; show go < rb; omega); have HWG : Hid (wb < go) := (by have h1 := unhide HS5; have h2 := unhide HGN; show wb < go; omega); have HB58 : Hid (Below W5.heap.size W5 W8) := (by rw [← unhide HGN]; exact (unhide HB6).trans (hB8.mono (Nat.le_of_lt (unhide HGR)))); have HB38 : Hid (Below W3.heap.size W3 W8) := Below.step (unhide H35) (unhide HB58); have HCE : Hid (CE W8 go rb [] true) := ⟨none, 0, 0, Rec.Var.new ((hB8.block go (unhide HGR)).trans (unhide HX6)), hs.new, fun ad e => by cases e⟩; have HW8 := hide (box_below (unhide HW5) (unhide HB58)); have HME := hide (lTold a b x1 y2 n m c1 c2 W3 W8 (unhide HI3) (unhide HU3) (unhide HB38) go wb rb wo wk wc (by have h1 := (unhide H35).size; rw [unhide HGN]; exact h1) (unhide HWG) (unhide HGR) (unhide HW8) (unhide HCE) (by rw [unhide HWK, ← unhide HDL, List.length_map]) (by rw [unhide HWK]; exact unhide HDK)); clear hs hB8 HX7 HB7 HS7 HX6 HB6 HS6 HB58 HCE HW5 HS5)
    | (go_at_call 41; refine (unhide HME).mono ?_; rintro e W9 ⟨rfl, ⟨xo, gn, gc, hv, hr, _⟩, hb⟩; have HB39 : Hid (Below W3.heap.size W3 W9) := (unhide HB38).trans (hb.mono (by have h1 := (unhide H35).size; rw [unhide HGN]; exact h1)); have HW9 : Hid (W9.heap[wb]? = some (.cells #[.slice wo wk wc] 53 (0, 0))) := (hb.block wb (unhide HWG)).trans (unhide HW8); have hgk : wk = gn := (by rw [unhide HWK, hv.hn, unhide HDL]); subst hgk; have HG9 := hide hv.box; have HOG : Hid (Ol W9 dl xo wk gc) := ⟨(by rw [← unhide HDL]; exact hv.own.at (by rw [unhide HDL]; exact unhide HDM)), unhide HWK⟩; have HOW : Hid (Ol W9 dl wo wk wc) := (unhide HO3).below (unhide HB39); have HI9 := hide ((unhide HI3).below (unhide HB39)); have HU9 := hide ((unhide HU3).below (unhide HB39)); have HB9 : Hid (Below u.heap.size u W9) := Below.step (unhide HB3) (unhide HB39); have g0 := cell_one (unhide HG9); have w0 := cell_one (unhide HW9); have r0 := cell_one hr; clear hv hr hb HME HB38 HW8 HO3 HI3 HU3 HGR HWG HB39)
    | fail)
  have hwki : (wk : Int) ≤ 4398046511 := by have h1 := unhide HWK; have h2 := unhide HDK; omega
  have hww : ((wk : Int) != (wk : Int)) = false := by simp
  clear HDL HDK HDM HNM HNT HMT HB1 HB2 HB3 H35
  go_wp2_with fail
  go_loopw [10] (fun si wr => ∃ i : Nat, i ≤ wk ∧ si = .int .i64 i ∧ Hid (Below W9.heap.size W9 wr)) (fun si _ => wk - (intOf si).toNat)
  case atStart => exact ⟨0, Nat.zero_le _, rfl, Below.refl _ _⟩
  case round =>
    obtain ⟨i, hin, rfl, HI⟩ := hrel
    have g1 := cell_one (box_below (unhide HG9) (unhide HI))
    have w1 := cell_one (box_below (unhide HW9) (unhide HI))
    by_cases hlt : i < wk
    · have hii : (i : Int) < (wk : Int) := by omega
      have hil : i < dl.length := by rw [← unhide HWK]; exact hlt
      obtain ⟨g, o, hxo, p0, p1, p2, p3, p4⟩ := ((unhide HOG).below (unhide HI)).to hil
      obtain ⟨g2, o2, hwo, q0, q1, q2, q3, q4⟩ := ((unhide HOW).below (unhide HI)).to hil
      have hix := ixTo g o wk gc i hlt
      have hix2 := ixTo g2 o2 wk wc i hlt
      have hne := neqT dl[i]
      subst hxo hwo
      generalize dl[i] = t at *
      obtain ⟨tk, th, ⟨tx, tn⟩, ty⟩ := t
      have p0 : wr.cell? ⟨g, o + i * 5, none⟩ = some (.string tk) := p0
      have p1 : wr.cell? ⟨g, o + i * 5 + 1, none⟩ = some (.int .i64 th) := p1
      have p2 : wr.cell? ⟨g, o + i * 5 + 2, none⟩ = some (.string tx) := p2
      have p3 : wr.cell? ⟨g, o + i * 5 + 3, none⟩ = some (.int .i64 tn) := p3
      have p4 : wr.cell? ⟨g, o + i * 5 + 4, none⟩ = some (.int .u8 (ty.toNat : Int)) := p4
      have q0 : wr.cell? ⟨g2, o2 + i * 5, none⟩ = some (.string tk) := q0
      have q1 : wr.cell? ⟨g2, o2 + i * 5 + 1, none⟩ = some (.int .i64 th) := q1
      have q2 : wr.cell? ⟨g2, o2 + i * 5 + 2, none⟩ = some (.string tx) := q2
      have q3 : wr.cell? ⟨g2, o2 + i * 5 + 3, none⟩ = some (.int .i64 tn) := q3
      have q4 : wr.cell? ⟨g2, o2 + i * 5 + 4, none⟩ = some (.int .u8 (ty.toNat : Int)) := q4
      have hne : ∀ u : World, (binOp .neq 63 (.agg #[.string tk, .int .i64 th, .string tx, .int .i64 tn, .int .u8 (ty.toNat : Int)]) (.agg #[.string tk, .int .i64 th, .string tx, .int .i64 tn, .int .u8 (ty.toNat : Int)])).run Try.prog u = .ok (.bool false) u := hne
      generalize (ty.toNat : Int) = yv at *
      generalize o + i * 5 = oo at *
      generalize o2 + i * 5 = op at *
      clear g0 w0 r0 HG9 HW9 HOG HOW hil
      go_wp2_with fail
      go_quiet (fail)
      go_wp2
      go_roundw
      case rel => exact ⟨i + 1, by omega, by go_num, belowDrewN (unhide HI) _⟩
      case measure => simp [intOf]; omega
    · obtain rfl : i = wk := by omega
      have hki : ¬ (i : Int) < (i : Int) := by omega
      have HIu : Hid (Below u.heap.size u wr) := Below.step (unhide HB9) (unhide HI)
      clear hww hwki HG9 HW9 HOG HOW g0 w0 r0 HWK
      go_wp2_with fail
      go_loopw [11] (fun si wr => ∃ i : Nat, i ≤ n ∧ si = .int .i64 i ∧ Hid (Below W9.heap.size W9 wr)) (fun si _ => n - (intOf si).toNat)
      case atStart => exact ⟨0, Nat.zero_le _, rfl, unhide HI⟩
      case round =>
        clear HI HIu
        obtain ⟨i, hin, rfl, HV2⟩ := hrel
        have HV2u : Hid (Below u.heap.size u wr) := Below.step (unhide HB9) (unhide HV2)
        by_cases hlt : i < n
        · have hii : (i : Int) < (n : Int) := by omega
          have hil : i < a.length := by rw [← unhide HNA]; exact hlt
          obtain ⟨g, o, hxo, p0, p1⟩ := ((unhide HI9).below (unhide HV2)).it hil
          obtain ⟨g2, o2, hwo, q0, q1⟩ := ((unhide HA).below (unhide HV2u)).it hil
          have hix := ixI g o n c1 i hlt
          have hix2 := ixI g2 o2 n c i hlt
          have hne := neqI a[i]
          rw [hxo, hwo] at *
          generalize a[i] = t at *
          obtain ⟨tk, tn⟩ := t
          have p0 : wr.cell? ⟨g, o + i * 2, none⟩ = some (.string tk) := p0
          have p1 : wr.cell? ⟨g, o + i * 2 + 1, none⟩ = some (.int .i64 tn) := p1
          have q0 : wr.cell? ⟨g2, o2 + i * 2, none⟩ = some (.string tk) := q0
          have q1 : wr.cell? ⟨g2, o2 + i * 2 + 1, none⟩ = some (.int .i64 tn) := q1
          have hne : ∀ u : World, (binOp .neq 57 (.agg #[.string tk, .int .i64 tn]) (.agg #[.string tk, .int .i64 tn])).run Try.prog u = .ok (.bool false) u := hne
          generalize o + i * 2 = oo at *
          generalize o2 + i * 2 = op at *
          go_wp2_with fail
          go_quiet (fail)
          go_wp2
          go_roundw
          case rel => exact ⟨i + 1, by omega, by go_num, belowDrewN (unhide HV2) _⟩
          case measure => simp [intOf]; omega
        · obtain rfl : i = n := by omega
          have hki : ¬ (i : Int) < (i : Int) := by omega
          obtain ⟨cb, hcb⟩ : ∃ cb, cb = wr.heap.size := ⟨_, rfl⟩
          have HCN := hide hcb
          clear hcb
          go_wp2_with (first
            | ((with_reducible refine wpList_alloc_row (by rfl) 3 (by rfl) (some 12) (by rfl) cb (unhide HCN).symm #[.int .i64 0] zeroIn ?_); intro W10 HX10 HB10 HS10; simp only [Act.put, List.setIfInBounds_toArray, List.set_cons_zero, List.set_cons_succ])
            | ((with_reducible refine wpList_store_ci (by rfl) 3 (.tmp 12) (.const (.int .i64 0)) (by rfl) (by rfl) cb 0 .i64 0 (by with_unfolding_all rfl) (by with_unfolding_all rfl) #[.int .i64 0] 3 (unhide HX10) (by simp) intInfo #[.int .i64 0] (by with_unfolding_all rfl) ?_); intro W11 hs; replace hs := unhide hs; have hb : Below wr.heap.size wr W11 := (by rw [← unhide HCN]; exact hs.below (unhide HB10) (Nat.le_refl _)); have HB11 : Hid (Below u.heap.size u W11) := Below.step (unhide HV2u) hb; have b0 := cell_one hs.new; have cv1 := convU ((unhide HU9).below (Below.step (unhide HV2) hb)); have cv2 := convU ((unhide HB).below (unhide HB11)); have HNL := hide (mNilL (.slice x1 i c1) (.slice y2 m c2) 43 45 #[.pointer (some ⟨cb, 0, none⟩)] W11); clear hs hb HX10 HB10 HS10 HCN)
            | (go_at_call 41; refine (unhide HNL).mono ?_; rintro e wq ⟨rfl, hwq⟩; obtain rfl := hwq.symm; have HNR := hide (mNilR (.slice x1 i c1) (.slice y2 m c2) 46 47 #[.pointer (some ⟨cb, 0, none⟩)] W11); clear HNL)
            | (go_at_call 41; refine (unhide HNR).mono ?_; rintro e wq ⟨rfl, hwq⟩; obtain rfl := hwq.symm; have HNE := hide (mNilE (.slice x1 i c1) (.slice y2 m c2) 48 43 W11); clear HNR)
            | (go_at_call 41; refine (unhide HNE).mono ?_; rintro e wq ⟨rfl, hwq⟩; obtain rfl := hwq.symm; clear HNE)
            | fail)
          go_ret
          exact ⟨rfl, unhide HB11⟩
end Go.Proofs.Ytbahlfpcbplofaa.S
