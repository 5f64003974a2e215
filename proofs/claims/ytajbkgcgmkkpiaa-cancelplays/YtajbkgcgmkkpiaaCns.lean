/- CancelSpreads: the walk. -/
import Derived.Test.YtajbkgcgmkkpiaaCnr
import Derived.Deep.DeepCutAuto
import Derived.Deep.CutBlock
namespace Go.Proofs.Ytajbkgcgmkkpiaa.C
open Go.RowKit Go.Lib
/-- tokens and rows in memory -/
structure RS (W wr : World) (G : Geo) (Z : Nat → Dy) (n : Nat) (A : List (Option Nat)) (O : List Int) (D : List (Nat × Int)) (ao bo eo : Option Addr) (ca cb ce : Nat) : Prop where
  fo : Fo W.heap.size wr G Z n
  wf : Wf G.up Z n
  al : TR.Own wr W.heap.size A ao ca
  ov : IR.Own wr W.heap.size O bo cb
  dn : ER.Own wr W.heap.size D eo ce
  bl : Below W.heap.size W wr
section
variable {W wr w' : World} {G : Geo} {Z : Nat → Dy} {n : Nat} {A : List (Option Nat)} {O : List Int} {D : List (Nat × Int)} {ao bo eo : Option Addr} {ca cb ce : Nat}
theorem RS.below (h : RS W wr G Z n A O D ao bo eo ca cb ce) (hb : Below wr.heap.size wr w') : RS W w' G Z n A O D ao bo eo ca cb ce :=
  ⟨h.fo.below hb, h.wf, h.al.below hb, h.ov.below hb, h.dn.below hb, h.bl.trans (hb.mono h.bl.size)⟩
theorem RS.more (h : RS W wr G Z n A O D ao bo eo ca cb ce) {k tb kb lb ch : Nat} {Z' : Nat → Dy} (hm : More W.heap.size wr w' G Z n k tb kb lb ch Z') : RS W w' (G.ext n tb kb lb ch k) Z' (n + 1) A O D ao bo eo ca cb ce :=
  ⟨hm.fo, hm.wf, own_fr h.al hm.fr (by decide) (by decide), own_fr h.ov hm.fr (by decide) (by decide), own_fr h.dn hm.fr (by decide) (by decide), h.bl.trans (hm.fr.below h.bl.size)⟩
theorem RS.cut (h : RS W wr G Z n A O D ao bo eo ca cb ce) {k : Nat} {why : Int} {Z' : Nat → Dy} (hm : Cut W.heap.size wr w' G Z n k why Z') : RS W w' G Z' n A O D ao bo eo ca cb ce :=
  ⟨hm.fo, hm.wf, own_fr h.al hm.fr (by decide) (by decide), own_fr h.ov hm.fr (by decide) (by decide), own_fr h.dn hm.fr (by decide) (by decide), h.bl.trans (hm.fr.below h.bl.size)⟩
theorem RS.putT (h : RS W wr G Z n A O D ao bo eo ca cb ce) {m : List (Option Nat)} {ao' : Option Addr} {n' c' : Nat} (hp : TR.Put wr w' W.heap.size A m ao ca ao' n' c') : RS W w' G Z n (A ++ m) O D ao' bo eo c' cb ce :=
  ⟨h.fo.keep 34 (by decide) (by decide) (by decide) (by decide) (fun _ _ hb hno => put_keep h.al hp hb hno), h.wf, hp.own, put_own h.al hp h.ov (by decide), put_own h.al hp h.dn (by decide), h.bl.trans hp.below⟩
theorem RS.putI (h : RS W wr G Z n A O D ao bo eo ca cb ce) {m : List Int} {bo' : Option Addr} {n' c' : Nat} (hp : IR.Put wr w' W.heap.size O m bo cb bo' n' c') : RS W w' G Z n A (O ++ m) D ao bo' eo ca c' ce :=
  ⟨h.fo.keep 3 (by decide) (by decide) (by decide) (by decide) (fun _ _ hb hno => put_keep h.ov hp hb hno), h.wf, put_own h.ov hp h.al (by decide), hp.own, put_own h.ov hp h.dn (by decide), h.bl.trans hp.below⟩
theorem RS.putE (h : RS W wr G Z n A O D ao bo eo ca cb ce) {m : List (Nat × Int)} {eo' : Option Addr} {n' c' : Nat} (hp : ER.Put wr w' W.heap.size D m eo ce eo' n' c') : RS W w' G Z n A O (D ++ m) ao bo eo' ca cb c' :=
  ⟨h.fo.keep 46 (by decide) (by decide) (by decide) (by decide) (fun _ _ hb hno => put_keep h.dn hp hb hno), h.wf, put_own h.dn hp h.al (by decide), put_own h.dn hp h.ov (by decide), hp.own, h.bl.trans hp.below⟩
end
/-- what stands at the head of a round -/
structure SS (W wr : World) (G : Geo) (Z : Nat → Dy) (n : Nat) (D : List (Nat × Int)) (ao bo eo : Option Addr) (ca cb ce : Nat) : Prop where
  rs : RS W wr G Z n (allL G n) (overL G.up n) D ao bo eo ca cb ce
  ev : ∀ j, j < n → (Z j).why = fstW G.up D (j + 1)
  ok : ∀ e ∈ D, e.1 ≠ 0 ∧ e.1 ≤ n ∧ ¬ e.2 = 0
section
variable {W wr w' : World} {G : Geo} {Z : Nat → Dy} {n : Nat} {D : List (Nat × Int)} {ao bo eo : Option Addr} {ca cb ce : Nat}
theorem SS.below (h : SS W wr G Z n D ao bo eo ca cb ce) (hb : Below wr.heap.size wr w') : SS W w' G Z n D ao bo eo ca cb ce :=
  ⟨h.rs.below hb, h.ev, h.ok⟩
theorem SS.whyN (h : SS W wr G Z n D ao bo eo ca cb ce) {k : Nat} (hk : k ≤ n) : C.whyN Z k = fstW G.up D k := by
  cases k with
  | zero =>
    have : ∀ D : List (Nat × Int), fstW G.up D 0 = 0 := fun D => by
      induction D with
      | nil => rfl
      | cons e D ih => rw [fstW_cons, abN_zero, if_neg (by simp)]; exact ih
    rw [this]; rfl
  | succ k => exact h.ev k (by omega)
/-- one token more: what the events say of it -/
theorem SS.more_ev (h : SS W wr G Z n D ao bo eo ca cb ce) {k tb kb lb ch : Nat} (hk : k ≤ n) {Z' : Nat → Dy} (hm : More W.heap.size wr w' G Z n k tb kb lb ch Z') :
    (∀ j, j < n + 1 → (Z' j).why = fstW (G.ext n tb kb lb ch k).up D (j + 1)) ∧ (∀ e ∈ D, e.1 ≠ 0 ∧ e.1 ≤ n + 1 ∧ ¬ e.2 = 0) := by
  have hc : ∀ (t j : Nat), j ≤ n → abN (G.ext n tb kb lb ch k).up t j = abN G.up t j := fun t j hj => abN_congr (fun i hi => h.rs.wf.uple i (by omega)) (fun i hi => ext_up (by omega))
  refine ⟨fun j hj => ?_, fun e he => ⟨(h.ok e he).1, by have := (h.ok e he).2.1; omega, (h.ok e he).2.2⟩⟩
  by_cases e : j = n
  · subst e
    rw [hm.new, h.whyN hk]
    symm
    refine fstW_congr D fun e he => ?_
    have hen := (h.ok e he).2.1
    rw [abN_step (fun i hi => hm.wf.uple i (by omega)), ext_self.2.2.2.2, hc _ _ hk, decide_eq_false (by omega), Bool.false_or]
  · rw [hm.old j (by omega), h.ev j (by omega)]
    symm
    exact fstW_congr D fun e _ => hc _ _ (by omega)
/-- a token cancelled: what the events say -/
theorem SS.cut_ev (h : SS W wr G Z n D ao bo eo ca cb ce) {k : Nat} (hk0 : k ≠ 0) (hkn : k ≤ n) (hkl : C.whyN Z k = 0) {why : Int} {Z' : Nat → Dy} (hm : Cut W.heap.size wr w' G Z n k why Z') :
    (∀ j, j < n → (Z' j).why = fstW G.up (D ++ [(k, wy why)]) (j + 1)) ∧ (∀ e ∈ D ++ [(k, wy why)], e.1 ≠ 0 ∧ e.1 ≤ n ∧ ¬ e.2 = 0) := by
  refine ⟨fun j hj => ?_, fun e he => ?_⟩
  · rw [hm.all j hj, fstW_app _ _ _ D (fun e he => (h.ok e he).2.2), ← h.ev j hj]
    by_cases hz : (Z j).why = 0
    · rw [if_pos hz]
      by_cases ha : abN G.up k (j + 1) = true
      · rw [if_pos ⟨hk0, hkl, hz, ha⟩, if_pos ha]
      · rw [if_neg (fun e => ha e.2.2.2), if_neg ha, hz]
    · rw [if_neg hz, if_neg (fun e => hz e.2.2.1)]
  · rcases List.mem_append.1 he with he | he
    · exact h.ok e he
    · obtain rfl := List.mem_singleton.1 he
      exact ⟨hk0, hkn, wy_ne why⟩
/-- Cancel of one that is cancelled, or of nil, turns nothing that is looked at -/
theorem SS.cut_none (h : SS W wr G Z n D ao bo eo ca cb ce) {k : Nat} (hk : ¬ (k ≠ 0 ∧ C.whyN Z k = 0)) {why : Int} {Z' : Nat → Dy} (hm : Cut W.heap.size wr w' G Z n k why Z') : SS W w' G Z' n D ao bo eo ca cb ce :=
  ⟨h.rs.cut hm, fun j hj => by rw [hm.all j hj, if_neg (fun e => hk ⟨e.1, e.2.1⟩)]; exact h.ev j hj, h.ok⟩
end
theorem sp_cells {W : World} {l : List Sp} {so : Option Addr} {cs : Nat} (h : At0 SR W l so cs) {c : Nat} (hc : c < l.length) : ∃ g o, so = some ⟨g, o, none⟩ ∧ W.cell? ⟨g, o + c * 3, none⟩ = some (.int .i64 l[c].kd) ∧ W.cell? ⟨g, o + c * 3 + 1, none⟩ = some (.int .i64 l[c].on) ∧ W.cell? ⟨g, o + c * 3 + 2, none⟩ = some (.int .i64 l[c].why) := by
  obtain ⟨g, o, e, hr⟩ := h.get hc
  exact ⟨g, o, e, hr 0 _ rfl, hr 1 _ rfl, hr 2 _ rfl⟩
theorem wpList_putT {ops : Array Oper} {rest : List Oper} {o : Oper} {a : Act} {w : World} {Q : Exit → Act → World → Prop} (hgd : o.guard = none) (s x : Operand) (ho : o.op = .call { callee := .builtin .append, args := #[s, x], argTypes := #[28, 28] }) (d : Option Tmp) (hd : o.dst = d)
    (B : Nat) (l m : List (Option Nat)) (n1 n2 : Nat) (e1 : n1 = l.length) (e2 : n2 = m.length) (ao bo : Option Addr) (c c2 : Nat) (hs : a.eval s = .slice ao n1 c) (hx : a.eval x = .slice bo n2 c2) (hown : TR.Own w B l ao c) (hm : TR.At w m bo c2) (hl : (l.length + m.length) * 8 ≤ 140737488355328) (hB : B ≤ w.heap.size)
    (h : ∀ ao' n' c' w', Hid (TR.Put w w' B l m ao c ao' n' c') → wpList Try.prog ops Q rest (a.put d (.slice ao' n' c')) w') : wpList Try.prog ops Q (o :: rest) a w :=
  TR.wpList_put hgd s x ho d hd B l m n1 n2 e1 e2 ao bo c c2 hs hx hown hm hl hB h
theorem wpList_putI {ops : Array Oper} {rest : List Oper} {o : Oper} {a : Act} {w : World} {Q : Exit → Act → World → Prop} (hgd : o.guard = none) (s x : Operand) (ho : o.op = .call { callee := .builtin .append, args := #[s, x], argTypes := #[42, 42] }) (d : Option Tmp) (hd : o.dst = d)
    (B : Nat) (l m : List Int) (n1 n2 : Nat) (e1 : n1 = l.length) (e2 : n2 = m.length) (ao bo : Option Addr) (c c2 : Nat) (hs : a.eval s = .slice ao n1 c) (hx : a.eval x = .slice bo n2 c2) (hown : IR.Own w B l ao c) (hm : IR.At w m bo c2) (hl : (l.length + m.length) * 8 ≤ 140737488355328) (hB : B ≤ w.heap.size)
    (h : ∀ ao' n' c' w', Hid (IR.Put w w' B l m ao c ao' n' c') → wpList Try.prog ops Q rest (a.put d (.slice ao' n' c')) w') : wpList Try.prog ops Q (o :: rest) a w :=
  IR.wpList_put hgd s x ho d hd B l m n1 n2 e1 e2 ao bo c c2 hs hx hown hm hl hB h
theorem wpList_putE {ops : Array Oper} {rest : List Oper} {o : Oper} {a : Act} {w : World} {Q : Exit → Act → World → Prop} (hgd : o.guard = none) (s x : Operand) (ho : o.op = .call { callee := .builtin .append, args := #[s, x], argTypes := #[43, 43] }) (d : Option Tmp) (hd : o.dst = d)
    (B : Nat) (l m : List (Nat × Int)) (n1 n2 : Nat) (e1 : n1 = l.length) (e2 : n2 = m.length) (ao bo : Option Addr) (c c2 : Nat) (hs : a.eval s = .slice ao n1 c) (hx : a.eval x = .slice bo n2 c2) (hown : ER.Own w B l ao c) (hm : ER.At w m bo c2) (hl : (l.length + m.length) * 16 ≤ 140737488355328) (hB : B ≤ w.heap.size)
    (h : ∀ ao' n' c' w', Hid (ER.Put w w' B l m ao c ao' n' c') → wpList Try.prog ops Q rest (a.put d (.slice ao' n' c')) w') : wpList Try.prog ops Q (o :: rest) a w :=
  ER.wpList_put hgd s x ho d hd B l m n1 n2 e1 e2 ao bo c c2 hs hx hown hm hl hB h
theorem oneT (W : World) (b : Nat) : TR.At (W.alloc (.cells #[.pointer (some ⟨b, 0, none⟩)] 34)) [some b] (some ⟨W.heap.size, 0, none⟩) 1 :=
  ⟨fun _ => ⟨_, 0, rfl, fun j v hv => by
    have h1 := heap_alloc_new W (.cells #[.pointer (some ⟨b, 0, none⟩)] 34)
    simp only [World.cell?, h1, Nat.zero_add]
    simpa [S.Rec.flat, TR, ptO] using hv⟩, by simp, (fun e => by cases e), by simp⟩
theorem oneI (W : World) (x : Int) : IR.At (W.alloc (.cells #[.int .i64 x] 3)) [x] (some ⟨W.heap.size, 0, none⟩) 1 :=
  ⟨fun _ => ⟨_, 0, rfl, fun j v hv => by
    have h1 := heap_alloc_new W (.cells #[.int .i64 x] 3)
    simp only [World.cell?, h1, Nat.zero_add]
    simpa [S.Rec.flat, IR] using hv⟩, by simp, (fun e => by cases e), by simp⟩
theorem oneE (W : World) (k : Nat) (x : Int) : ER.At (W.alloc (.cells #[.int .i64 (k : Int), .int .i64 x] 46)) [(k, x)] (some ⟨W.heap.size, 0, none⟩) 1 :=
  ⟨fun _ => ⟨_, 0, rfl, fun j v hv => by
    have h1 := heap_alloc_new W (.cells #[.int .i64 (k : Int), .int .i64 x] 46)
    simp only [World.cell?, h1, Nat.zero_add]
    simpa [S.Rec.flat, ER] using hv⟩, by simp, (fun e => by cases e), by simp⟩
end Go.Proofs.Ytajbkgcgmkkpiaa.C
