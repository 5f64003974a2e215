/- Segments: Diff, Put, Take of the program. Written by mksgr.py. -/
import Derived.Test.YtbahlfpcbplofaaSgq
namespace Go.Proofs.Ytbahlfpcbplofaa.S
open Go.RowKit Go.Lib
def difs (ts : List (Tell En En)) : List Df := ts.flatMap dif1
def put1 (t : Tell En En) : List En := match t.2.2 with | some y => [y] | none => match t.2.1 with | some x => [x] | none => []
def puts (ts : List (Tell En En)) : List En := ts.flatMap put1
def tak1 (t : Tell En ByteArray) : List En := match t.2.2 with | some _ => [] | none => match t.2.1 with | some x => [x] | none => []
def taks (ts : List (Tell En ByteArray)) : List En := ts.flatMap tak1
theorem flat_le {α β : Type} (f : α → List β) (h : ∀ x, (f x).length ≤ 1) : ∀ l : List α, (l.flatMap f).length ≤ l.length
  | [] => by simp
  | x :: l => by
    have h1 := flat_le f h l
    have h2 := h x
    rw [List.flatMap_cons, List.length_append, List.length_cons]; omega
theorem difs_le (ts : List (Tell En En)) : (difs ts).length ≤ ts.length := flat_le _ (fun t => by unfold dif1; split <;> simp) ts
theorem put1_le (t : Tell En En) : (put1 t).length ≤ 1 := by
  unfold put1
  split
  · simp
  · split <;> simp
theorem tak1_le (t : Tell En ByteArray) : (tak1 t).length ≤ 1 := by
  unfold tak1
  split
  · simp
  · split <;> simp
theorem puts_le (ts : List (Tell En En)) : (puts ts).length ≤ ts.length := flat_le _ (put1_le) ts
theorem taks_le (ts : List (Tell En ByteArray)) : (taks ts).length ≤ ts.length := flat_le _ (tak1_le) ts
abbrev mgE (a b : List En) : List (Tell En En) := mrg Prod.fst Prod.fst a b
abbrev mgS (a : List En) (b : List ByteArray) : List (Tell En ByteArray) := mrg Prod.fst (fun k => k) a b
noncomputable def difV (a b : List En) : List Df × Int := if liB a = true ∧ liB b = true then (difs (mgE a b), 0) else ([], 140)
noncomputable def putV (l : List En) (e : En) : List En × Int := if okB l e.2.size = true ∧ okB [e] e.2.size = true then (puts (mgE l [e]), 0) else ([], 140)
noncomputable def takV (l : List En) (k : ByteArray) : List En × Bool := if liB l = true then (if (taks (mgS l [k])).length = l.length then ([], false) else (taks (mgS l [k]), true)) else ([], false)
theorem zeroDs : ((Try.prog.info? 35).bind (·.zero)).map (·.cells) = some #[.slice none 0 0] := by kernel_rfl
theorem zeroEs : ((Try.prog.info? 27).bind (·.zero)).map (·.cells) = some #[.slice none 0 0] := by kernel_rfl
theorem Rec.Var.new {α : Type} {R : Rec Try.prog α} {W : World} {go : Nat} (h : W.heap[go]? = some (.cells #[.slice none 0 0] R.st (0, 0))) : R.Var W go [] none 0 0 := ⟨h, rfl, Rec.Own.none _ _⟩
theorem Rec.Var.ne {α : Type} {R : Rec Try.prog α} {V : World} {go bx : Nat} {l : List α} {ao : Option Addr} {n c : Nat} (h : R.Var V go l ao n c) (hb : V.heap.size ≤ bx) : ∀ ad : Addr, ao = some ad → ad.block ≠ bx := fun ad e hh => by
  subst e
  have := (World.ownsRow.lt h.own ad.block rfl).2
  omega
theorem entKO : ∀ args (w : World), (callFunc 71 args).run Try.prog w = .ok (.enter 71 args) w := by
  intro args w
  go_simp
theorem entIT : ∀ args (w : World), (callFunc 77 args).run Try.prog w = .ok (.enter 77 args) w := by
  intro args w
  go_simp
/- the merges of Diff, Put, Take -/
theorem mDiff {u : World} (a b : List En) (ao bo : Option Addr) (n m c d : Nat) (ha : El u a ao n c) (hb : El u b bo m d) (hm : n + m ≤ 1099511627776) (go : Nat) (hgo : u.heap.size ≤ go) (w : World) (hw : Below u.heap.size u w) (hv : RD.Var w go [] none 0 0) :
    Calls Try.prog 70 #[.slice ao n c, .slice bo m d, .func (.func 71) #[] #[], .func (.func 71) #[] #[], .func (.func 72) #[] #[.pointer (some ⟨go, 0, none⟩)]] w fun e w' => e = .returned (.tuple #[]) ∧ (∃ xo k c', RD.Var w' go (difs (mgE a b)) xo k c') ∧ Below u.heap.size u w' := by
  have hts : ∀ ts : List (Tell En En), ts.length < a.length + b.length → (difs ts).length ≤ 1099511627776 := fun ts h => by
    have h1 := difs_le ts
    have h2 := ha.hn
    have h3 := hb.hn
    omega
  have happ : ∀ (ts : List (Tell En En)) (t : Tell En En), difs (ts ++ [t]) = difs ts ++ dif1 t := fun ts t => by simp [difs]
  refine mrgE a b ao bo n m c d (fun W => Below u.heap.size u W) (fun W hW => ⟨ha.below hW, hb.below hW⟩) (fun W W' h1 h2 => Below.step h1 h2) 71 71 72 #[.pointer (some ⟨go, 0, none⟩)] Prod.fst Prod.fst ⟨entKO, sKeyOf⟩ ⟨entKO, sKeyOf⟩ (ent_lit _ (by kernel_rfl)) (fun ts G => ∃ xo k c', RD.Var G go (difs ts) xo k c') ?_ ?_ ?_ w hw ⟨none, 0, 0, hv⟩
  · rintro ts x bx V W ⟨xo, k, c', hV⟩ hlt hVW huW hbx hx
    refine (dEach x.1 (some x) none _ _ W go (difs ts) xo k c' (hV.below hVW) ⟨bx, rfl, hx⟩ rfl (hts ts hlt)).mono ?_
    rintro e W' ⟨he, hv', hbl⟩
    exact ⟨he, by rw [happ]; exact hv', huW.trans (hbl.mono hgo)⟩
  · rintro ts y by_ V W ⟨xo, k, c', hV⟩ hlt hVW huW hby hy
    refine (dEach y.1 none (some y) _ _ W go (difs ts) xo k c' (hV.below hVW) rfl ⟨by_, rfl, hy⟩ (hts ts hlt)).mono ?_
    rintro e W' ⟨he, hv', hbl⟩
    exact ⟨he, by rw [happ]; exact hv', huW.trans (hbl.mono hgo)⟩
  · rintro ts x y bx by_ V W ⟨xo, k, c', hV⟩ hlt hVW huW hbx hby hne hx hy
    refine (dEach x.1 (some x) (some y) _ _ W go (difs ts) xo k c' (hV.below hVW) ⟨bx, rfl, hx⟩ ⟨by_, rfl, hy⟩ (hts ts hlt)).mono ?_
    rintro e W' ⟨he, hv', hbl⟩
    exact ⟨he, by rw [happ]; exact hv', huW.trans (hbl.mono hgo)⟩
theorem mPut {u : World} (a b : List En) (ao bo : Option Addr) (n m c d : Nat) (ha : El u a ao n c) (hb : El u b bo m d) (hm : n + m ≤ 4398046511001) (go : Nat) (hgo : u.heap.size ≤ go) (w : World) (hw : Below u.heap.size u w) (hv : RE.Var w go [] none 0 0) :
    Calls Try.prog 70 #[.slice ao n c, .slice bo m d, .func (.func 71) #[] #[], .func (.func 71) #[] #[], .func (.func 74) #[] #[.pointer (some ⟨go, 0, none⟩)]] w fun e w' => e = .returned (.tuple #[]) ∧ (∃ xo k c', RE.Var w' go (puts (mgE a b)) xo k c') ∧ Below u.heap.size u w' := by
  have hts : ∀ ts : List (Tell En En), ts.length < a.length + b.length → (puts ts).length ≤ 4398046511000 := fun ts h => by
    have h1 := puts_le ts
    have h2 := ha.hn
    have h3 := hb.hn
    omega
  have happ : ∀ (ts : List (Tell En En)) (t : Tell En En), puts (ts ++ [t]) = puts ts ++ put1 t := fun ts t => by simp [puts]
  refine mrgE a b ao bo n m c d (fun W => Below u.heap.size u W) (fun W hW => ⟨ha.below hW, hb.below hW⟩) (fun W W' h1 h2 => Below.step h1 h2) 71 71 74 #[.pointer (some ⟨go, 0, none⟩)] Prod.fst Prod.fst ⟨entKO, sKeyOf⟩ ⟨entKO, sKeyOf⟩ (ent_lit _ (by kernel_rfl)) (fun ts G => ∃ xo k c', RE.Var G go (puts ts) xo k c') ?_ ?_ ?_ w hw ⟨none, 0, 0, hv⟩
  · rintro ts x bx V W ⟨xo, k, c', hV⟩ hlt hVW huW hbx hx
    refine (pEachX x.1 x.1 x.2 bx W go (puts ts) xo k c' (hV.below hVW) hx (Rec.Var.ne hV hbx) (hts ts hlt)).mono ?_
    rintro e W' ⟨he, ⟨x', k', c'', hv', _⟩, hbl⟩
    exact ⟨he, ⟨x', k', c'', by rw [happ]; exact hv'⟩, huW.trans (hbl.mono hgo)⟩
  · rintro ts y by_ V W ⟨xo, k, c', hV⟩ hlt hVW huW hby hy
    refine (pEachY y.1 y.1 y.2 by_ _ W go (puts ts) xo k c' (hV.below hVW) hy (Rec.Var.ne hV hby) (hts ts hlt)).mono ?_
    rintro e W' ⟨he, ⟨x', k', c'', hv', _⟩, hbl⟩
    exact ⟨he, ⟨x', k', c'', by rw [happ]; exact hv'⟩, huW.trans (hbl.mono hgo)⟩
  · rintro ts x y bx by_ V W ⟨xo, k, c', hV⟩ hlt hVW huW hbx hby hne hx hy
    refine (pEachY x.1 y.1 y.2 by_ _ W go (puts ts) xo k c' (hV.below hVW) hy (Rec.Var.ne hV hby) (hts ts hlt)).mono ?_
    rintro e W' ⟨he, ⟨x', k', c'', hv', _⟩, hbl⟩
    exact ⟨he, ⟨x', k', c'', by rw [happ]; exact hv'⟩, huW.trans (hbl.mono hgo)⟩
theorem mTake {u : World} (a : List En) (key : ByteArray) (ao : Option Addr) (n c kb : Nat) (ha : El u a ao n c) (hm : n + 1 ≤ 4398046511001) (go : Nat) (hgo : u.heap.size ≤ go) (hne : kb ≠ go) (w : World) (hw : Below u.heap.size u w) (hk : w.heap[kb]? = some (.cells #[.string key] 9 (0, 0))) (hv : RE.Var w go [] none 0 0) :
    Calls Try.prog 76 #[.slice ao n c, .slice (some ⟨kb, 0, none⟩) 1 1, .func (.func 71) #[] #[], .func (.func 77) #[] #[], .func (.func 78) #[] #[.pointer (some ⟨go, 0, none⟩)]] w fun e w' => e = .returned (.tuple #[]) ∧ (∃ xo k c', RE.Var w' go (taks (mgS a [key])) xo k c') ∧ Below u.heap.size u w' := by
  have hts : ∀ ts : List (Tell En ByteArray), ts.length < a.length + [key].length → (taks ts).length ≤ 4398046511000 := fun ts h => by
    have h1 := taks_le ts
    have h2 := ha.hn
    rw [List.length_singleton] at h
    omega
  have happ : ∀ (ts : List (Tell En ByteArray)) (t : Tell En ByteArray), taks (ts ++ [t]) = taks ts ++ tak1 t := fun ts t => by simp [taks]
  have hone : ∀ G : World, G.heap[kb]? = some (.cells #[.string key] 9 (0, 0)) → Tl G [key] (some ⟨kb, 0, none⟩) 1 1 := fun G hG =>
    ⟨⟨fun _ => ⟨_, 0, rfl, fun j v hv => by
      simp only [World.cell?, hG, Nat.zero_add]
      simpa [Rec.flat, RS, tcs] using hv⟩, by simp, (fun e => by cases e), by simp⟩, rfl⟩
  refine (mrgS a [key] ao _ n 1 c 1 (fun W => Below u.heap.size u W ∧ W.heap[kb]? = some (.cells #[.string key] 9 (0, 0))) (fun W hW => ⟨ha.below hW.1, hone W hW.2⟩) (fun W W' h1 h2 => ⟨Below.step h1.1 h2, box_below h1.2 h2⟩) 71 77 78 #[.pointer (some ⟨go, 0, none⟩)] Prod.fst (fun k => k) ⟨entKO, sKeyOf⟩ ⟨entIT, sItself⟩ (ent_lit _ (by kernel_rfl)) (fun ts G => (∃ xo k c', RE.Var G go (taks ts) xo k c' ∧ ∀ ad : Addr, xo = some ad → ad.block ≠ kb) ∧ kb < G.heap.size) ?_ ?_ ?_ w ⟨hw, hk⟩ ⟨⟨none, 0, 0, hv, fun ad e => by cases e⟩, (Array.getElem?_eq_some_iff.1 hk).1⟩).mono ?_
  · rintro ts x bx V W ⟨⟨xo, k, c', hV, hnk⟩, hks⟩ hlt hVW huW hbx hx
    refine (tEachX x.1 x.1 x.2 bx W go (taks ts) xo k c' (hV.below hVW) hx (Rec.Var.ne hV hbx) (hts ts hlt)).mono ?_
    rintro e W' ⟨he, ⟨xo', k', c'', hv', hkp⟩, hbl⟩
    have hkW : kb < W.heap.size := Nat.lt_of_lt_of_le hks hVW.size
    have hsz : W.heap.size ≤ W'.heap.size := hbl.size
    refine ⟨he, ⟨⟨xo', k', c'', by rw [happ]; exact hv', fun ad' e' hh => ?_⟩, Nat.lt_of_lt_of_le hkW hsz⟩, huW.1.trans (hbl.mono hgo), (hkp.keep kb hkW hne hnk).trans huW.2⟩
    rcases hkp.newb ad' e' with ⟨ad, h1, h2⟩ | h
    · exact hnk ad h1 (h2.trans hh)
    · omega
  · rintro ts y by_ V W ⟨⟨xo, k, c', hV, hnk⟩, hks⟩ hlt hVW huW hby hy
    refine (tEachY y _ by_ W go).mono ?_
    rintro e W' ⟨he, rfl⟩
    exact ⟨he, ⟨⟨xo, k, c', by rw [happ, show tak1 (y, none, some y) = [] from rfl, List.append_nil]; exact hV.below hVW, hnk⟩, Nat.lt_of_lt_of_le hks hVW.size⟩, huW⟩
  · rintro ts x y bx by_ V W ⟨⟨xo, k, c', hV, hnk⟩, hks⟩ hlt hVW huW hbx hby hnn hx hy
    refine (tEachY x.1 _ by_ W go).mono ?_
    rintro e W' ⟨he, rfl⟩
    exact ⟨he, ⟨⟨xo, k, c', by rw [happ, show tak1 (x.1, some x, some y) = [] from rfl, List.append_nil]; exact hV.below hVW, hnk⟩, Nat.lt_of_lt_of_le hks hVW.size⟩, huW⟩
  · rintro e w' ⟨he, ⟨⟨xo, k, c', hV, _⟩, _⟩, hu, _⟩
    exact ⟨he, ⟨xo, k, c', hV⟩, hu⟩
set_option maxRecDepth 100000 in
set_option maxHeartbeats 2000000 in
theorem sDiff (a b : List En) (ao bo : Option Addr) (n m c d : Nat) (u : World) (ha : El u a ao n c) (hb : El u b bo m d) (hm : n + m ≤ 1099511627776) (dl : List Df) (r : Int) (hv : difV a b = (dl, r)) : Calls Try.prog 29 #[.slice ao n c, .slice bo m d] u fun e u' => ∃ xo k c', e = .returned (.tuple #[.slice xo k c', .int .i64 r]) ∧ k = dl.length ∧ RD.Own u' u.heap.size dl xo c' ∧ Below u.heap.size u u' := by
  have HL1 := hide fun (G : World) (hG : Below u.heap.size u G) => sIsList a ao n c G (ha.below hG)
  have HL2 := hide fun (G : World) (hG : Below u.heap.size u G) => sIsList b bo m d G (hb.below hG)
  have HMD := hide fun (go : Nat) (hgo : u.heap.size ≤ go) (w : World) (hw : Below u.heap.size u w) (h : RD.Var w go [] none 0 0) => mDiff a b ao bo n m c d ha hb hm go hgo w hw h
  unfold difV at hv
  clear ha hb hm
  by_cases h1 : liB a = true
  · rw [h1] at HL1
    by_cases h2 : liB b = true
    · rw [h2] at HL2
      rw [if_pos ⟨h1, h2⟩] at hv
      cases hv
      clear h1 h2
      go_enter Try.func29, Try.ntmps29
      go_wp2_with (first
        | (go_at_call_of 65 (Value.slice ao n c); refine (unhide HL1 u (Below.refl _ _)).mono ?_; rintro e W1 ⟨rfl, hb⟩; have HB1 := hide hb; clear hb)
        | (go_at_call 65; refine (unhide HL2 W1 (unhide HB1)).mono ?_; rintro e W2 ⟨rfl, hb⟩; have HB2 : Hid (Below u.heap.size u W2) := Below.step (unhide HB1) hb; clear hb HB1; obtain ⟨go, hgo⟩ : ∃ go, go = W2.heap.size := ⟨_, rfl⟩; have HGO := hide hgo; clear hgo)
        | ((with_reducible refine wpList_alloc_row (by rfl) 35 (by rfl) (some 6) (by rfl) go (unhide HGO).symm #[.slice none 0 0] zeroDs ?_); intro W3 HX3 HB3 HS3; simp only [Act.put, List.setIfInBounds_toArray, List.set_cons_zero, List.set_cons_succ]; have HG3 : Hid (u.heap.size ≤ go) := (by rw [unhide HGO]; exact (unhide HB2).size); have HB4 : Hid (Below u.heap.size u W3) := (unhide HB2).trans ((unhide HB3).mono (unhide HG3)); have HV3 : Hid (RD.Var W3 go [] none 0 0) := Rec.Var.new (unhide HX3))
        | (go_at_call 70; refine (unhide HMD go (unhide HG3) W3 (unhide HB4) (unhide HV3)).mono ?_; rintro e W5 ⟨rfl, ⟨xo, k, c', hv⟩, hb⟩; have HB5 := hide hb; have HV5 := hide hv; have hc5 := cell_one hv.box; clear hb hv)
        | fail)
      go_ret2
      exact ⟨xo, k, c', rfl, (unhide HV5).hn, (unhide HV5).own.down (Nat.le_succ_of_le (unhide HG3)), unhide HB5⟩
    · rw [Bool.not_eq_true] at h2
      rw [h2] at HL2
      rw [if_neg (by rw [h2]; exact fun h => by cases h.2)] at hv
      cases hv
      clear h1 h2
      go_enter Try.func29, Try.ntmps29
      go_wp2_with (first
        | (go_at_call_of 65 (Value.slice ao n c); refine (unhide HL1 u (Below.refl _ _)).mono ?_; rintro e W1 ⟨rfl, hb⟩; have HB1 := hide hb; clear hb)
        | (go_at_call 65; refine (unhide HL2 W1 (unhide HB1)).mono ?_; rintro e W2 ⟨rfl, hb⟩; have HB2 : Hid (Below u.heap.size u W2) := Below.step (unhide HB1) hb; clear hb HB1)
        | fail)
      go_ret2
      exact ⟨none, 0, 0, rfl, rfl, Rec.Own.none _ _, unhide HB2⟩
  · rw [Bool.not_eq_true] at h1
    rw [h1] at HL1
    rw [if_neg (by rw [h1]; exact fun h => by cases h.1)] at hv
    cases hv
    clear h1
    go_enter Try.func29, Try.ntmps29
    go_wp2_with (first
      | (go_at_call 65; refine (unhide HL1 u (Below.refl _ _)).mono ?_; rintro e W1 ⟨rfl, hb⟩; have HB1 := hide hb; clear hb)
      | fail)
    go_ret2
    exact ⟨none, 0, 0, rfl, rfl, Rec.Own.none _ _, unhide HB1⟩
theorem El.one (W : World) (e : En) (t : TypeId) : El (W.alloc (.cells #[.string e.1, .string e.2] t)) [e] (some ⟨W.heap.size, 0, none⟩) 1 1 := ⟨RE.one W e t, rfl⟩
set_option maxRecDepth 100000 in
set_option maxHeartbeats 2000000 in
theorem sPut (l : List En) (ao : Option Addr) (n c : Nat) (ek es : ByteArray) (u : World) (h : El u l ao n c) (dl : List En) (r : Int) (hv : putV l (ek, es) = (dl, r)) : Calls Try.prog 33 #[.slice ao n c, .agg #[.string ek, .string es]] u fun e u' => ∃ xo k c', e = .returned (.tuple #[.slice xo k c', .int .i64 r]) ∧ k = dl.length ∧ RE.Own u' u.heap.size dl xo c' ∧ Below u.heap.size u u' := by
  have HH := hide h
  have hnf := h.few
  have hnn : n + 1 ≤ 4398046511001 := by omega
  have HNN := hide hnn
  have HV1 := hide fun (G : World) (hG : Below u.heap.size u G) => sValid l ao n c (es.size : Int) G (h.below hG)
  have HV2 : Hid (∀ (G : World) (g : Nat), El G [(ek, es)] (some ⟨g, 0, none⟩) 1 1 → Calls Try.prog 22 #[.slice (some ⟨g, 0, none⟩) 1 1, .int .i64 (es.size : Int)] G fun e u' => e = .returned (.bool (okB [(ek, es)] (es.size : Int))) ∧ Below G.heap.size G u') := fun G g hG => sValid [(ek, es)] _ 1 1 (es.size : Int) G hG
  unfold putV at hv
  obtain ⟨N, hN⟩ : ∃ N, N = u.heap.size := ⟨_, rfl⟩
  have HN := hide hN
  have HNU : Hid (∀ G : World, Below N u G → Below u.heap.size u G) := fun G hG => by rw [← hN]; exact hG
  clear h hnf hnn hN
  have ARMS : True := trivial
  clear ARMS
  by_cases h1 : okB l (es.size : Int) = true
  · rw [h1] at HV1
    by_cases h2 : okB [(ek, es)] (es.size : Int) = true
    · rw [h2] at HV2
      rw [if_pos ⟨h1, h2⟩] at hv
      cases hv
      clear h1 h2
      go_enter Try.func33, Try.ntmps33
      go_wp2_with (first
        | ((with_reducible refine wpList_box_en (by rfl) (.tmp 1) (by rfl) (some 3) (by rfl) N (unhide HN) ek es (by with_unfolding_all rfl) ?_); intro W1 HX1 HB1 HS1; simp only [Act.put, List.setIfInBounds_toArray, List.set_cons_zero, List.set_cons_succ]; obtain ⟨y0, y1⟩ := en_cells (unhide HX1); have z1 : (W1.alloc (.cells #[.string ek, .string es] 43)).cell? ⟨N, 1, none⟩ = some (.string es) := cell_keep ((Below.refl _ _).alloc (Nat.le_refl _) _) y1; have HB2 : Hid (Below u.heap.size u (W1.alloc (.cells #[.string ek, .string es] 43))) := (unhide HNU _ (unhide HB1)).alloc (unhide HNU _ (unhide HB1)).size _; have HO2 : Hid (El (W1.alloc (.cells #[.string ek, .string es] 43)) [(ek, es)] (some ⟨W1.heap.size, 0, none⟩) 1 1) := El.one W1 (ek, es) _)
        | (go_at_call_of 22 (Value.slice ao n c); refine (unhide HV1 _ (unhide HB2)).mono ?_; rintro e W4 ⟨rfl, hb⟩; have HB4 : Hid (Below u.heap.size u W4) := Below.step (unhide HB2) hb; have HO4 := hide ((unhide HO2).below hb); clear hb)
        | (go_at_call 22; refine (unhide HV2 _ _ (unhide HO4)).mono ?_; rintro e W5 ⟨rfl, hb⟩; have HB5 : Hid (Below u.heap.size u W5) := Below.step (unhide HB4) hb; have HO5 := hide ((unhide HO4).below hb); clear hb; obtain ⟨go, hgo⟩ : ∃ go, go = W5.heap.size := ⟨_, rfl⟩; have HGO := hide hgo; clear hgo)
        | ((with_reducible refine wpList_alloc_row (by rfl) 27 (by rfl) (some 8) (by rfl) go (unhide HGO).symm #[.slice none 0 0] zeroEs ?_); intro W6 HX6 HB6 HS6; simp only [Act.put, List.setIfInBounds_toArray, List.set_cons_zero, List.set_cons_succ]; have HG6 : Hid (u.heap.size ≤ go) := (by rw [unhide HGO]; exact (unhide HB5).size); have HB7 : Hid (Below W5.heap.size W5 W6) := (by rw [← unhide HGO]; exact unhide HB6); have HV6 : Hid (RE.Var W6 go [] none 0 0) := Rec.Var.new (unhide HX6); have HMP : Hid (Calls Try.prog 70 #[.slice ao n c, .slice (some ⟨W1.heap.size, 0, none⟩) 1 1, .func (.func 71) #[] #[], .func (.func 71) #[] #[], .func (.func 74) #[] #[.pointer (some ⟨go, 0, none⟩)]] W6 fun e w' => e = .returned (.tuple #[]) ∧ (∃ xo k c', RE.Var w' go (puts (mgE l [(ek, es)])) xo k c') ∧ Below W5.heap.size W5 w') := mPut (u := W5) l [(ek, es)] _ _ n 1 c 1 ((unhide HH).below (unhide HB5)) (unhide HO5) (unhide HNN) go (by rw [unhide HGO]; exact Nat.le_refl _) W6 (unhide HB7) (unhide HV6))
        | (go_at_call 70; refine (unhide HMP).mono ?_; rintro e W8 ⟨rfl, ⟨xo, k, c', hv⟩, hb⟩; have HB8 : Hid (Below u.heap.size u W8) := Below.step (unhide HB5) hb; have HV8 := hide hv; have hc8 := cell_one hv.box; clear hb hv)
        | fail)
      go_ret2
      exact ⟨xo, k, c', rfl, (unhide HV8).hn, (unhide HV8).own.down (Nat.le_succ_of_le (unhide HG6)), unhide HB8⟩
    · rw [Bool.not_eq_true] at h2
      rw [h2] at HV2
      rw [if_neg (fun h => by rw [h2] at h; cases h.2)] at hv
      cases hv
      clear h1 h2
      go_enter Try.func33, Try.ntmps33
      go_wp2_with (first
        | ((with_reducible refine wpList_box_en (by rfl) (.tmp 1) (by rfl) (some 3) (by rfl) N (unhide HN) ek es (by with_unfolding_all rfl) ?_); intro W1 HX1 HB1 HS1; simp only [Act.put, List.setIfInBounds_toArray, List.set_cons_zero, List.set_cons_succ]; obtain ⟨y0, y1⟩ := en_cells (unhide HX1); have z1 : (W1.alloc (.cells #[.string ek, .string es] 43)).cell? ⟨N, 1, none⟩ = some (.string es) := cell_keep ((Below.refl _ _).alloc (Nat.le_refl _) _) y1; have HB2 : Hid (Below u.heap.size u (W1.alloc (.cells #[.string ek, .string es] 43))) := (unhide HNU _ (unhide HB1)).alloc (unhide HNU _ (unhide HB1)).size _; have HO2 : Hid (El (W1.alloc (.cells #[.string ek, .string es] 43)) [(ek, es)] (some ⟨W1.heap.size, 0, none⟩) 1 1) := El.one W1 (ek, es) _)
        | (go_at_call_of 22 (Value.slice ao n c); refine (unhide HV1 _ (unhide HB2)).mono ?_; rintro e W4 ⟨rfl, hb⟩; have HB4 : Hid (Below u.heap.size u W4) := Below.step (unhide HB2) hb; have HO4 := hide ((unhide HO2).below hb); clear hb)
        | (go_at_call 22; refine (unhide HV2 _ _ (unhide HO4)).mono ?_; rintro e W5 ⟨rfl, hb⟩; have HB5 : Hid (Below u.heap.size u W5) := Below.step (unhide HB4) hb; clear hb)
        | fail)
      go_ret2
      exact ⟨none, 0, 0, rfl, rfl, Rec.Own.none _ _, unhide HB5⟩
  · rw [Bool.not_eq_true] at h1
    rw [h1] at HV1
    rw [if_neg (fun h => by rw [h1] at h; cases h.1)] at hv
    cases hv
    clear h1
    go_enter Try.func33, Try.ntmps33
    go_wp2_with (first
        | ((with_reducible refine wpList_box_en (by rfl) (.tmp 1) (by rfl) (some 3) (by rfl) N (unhide HN) ek es (by with_unfolding_all rfl) ?_); intro W1 HX1 HB1 HS1; simp only [Act.put, List.setIfInBounds_toArray, List.set_cons_zero, List.set_cons_succ]; obtain ⟨y0, y1⟩ := en_cells (unhide HX1); have z1 : (W1.alloc (.cells #[.string ek, .string es] 43)).cell? ⟨N, 1, none⟩ = some (.string es) := cell_keep ((Below.refl _ _).alloc (Nat.le_refl _) _) y1; have HB2 : Hid (Below u.heap.size u (W1.alloc (.cells #[.string ek, .string es] 43))) := (unhide HNU _ (unhide HB1)).alloc (unhide HNU _ (unhide HB1)).size _; have HO2 : Hid (El (W1.alloc (.cells #[.string ek, .string es] 43)) [(ek, es)] (some ⟨W1.heap.size, 0, none⟩) 1 1) := El.one W1 (ek, es) _)
        | (go_at_call 22; refine (unhide HV1 _ (unhide HB2)).mono ?_; rintro e W4 ⟨rfl, hb⟩; have HB4 : Hid (Below u.heap.size u W4) := Below.step (unhide HB2) hb; clear hb)
        | fail)
    go_ret2
    exact ⟨none, 0, 0, rfl, rfl, Rec.Own.none _ _, unhide HB4⟩
set_option maxRecDepth 100000 in
set_option maxHeartbeats 2000000 in
theorem sTake (l : List En) (ao : Option Addr) (n c : Nat) (key : ByteArray) (u : World) (h : El u l ao n c) (dl : List En) (r : Bool) (hv : takV l key = (dl, r)) : Calls Try.prog 36 #[.slice ao n c, .string key] u fun e u' => ∃ xo k c', e = .returned (.tuple #[.slice xo k c', .bool r]) ∧ k = dl.length ∧ RE.Own u' u.heap.size dl xo c' ∧ Below u.heap.size u u' := by
  have HH := hide h
  have hnf := h.few
  have hnn : n + 1 ≤ 4398046511001 := by omega
  have hni : (n : Int) ≤ 4398046511000 := by omega
  have HNN := hide hnn
  have HRN := hide h.hn
  have HL1 := hide fun (G : World) (hG : Below u.heap.size u G) => sIsList l ao n c G (h.below hG)
  unfold takV at hv
  clear h hnf hnn
  by_cases h1 : liB l = true
  · rw [h1] at HL1
    rw [if_pos h1] at hv
    clear h1
    have HTK := hide (taks_le (mgS l [key]))
    have HMG : Hid ((mgS l [key]).length ≤ l.length + 1) := mrg_len (f := Prod.fst) (g := fun k : ByteArray => k) l [key]
    by_cases h2 : (taks (mgS l [key])).length = l.length
    · rw [if_pos h2] at hv
      cases hv
      have HLE := hide h2
      clear h2
      go_enter Try.func36, Try.ntmps36
      go_wp2_with (first
        | (go_at_call 65; refine (unhide HL1 u (Below.refl _ _)).mono ?_; rintro e W1 ⟨rfl, hb⟩; have HB1 := hide hb; clear hb; obtain ⟨go, hgo⟩ : ∃ go, go = W1.heap.size := ⟨_, rfl⟩; have HGO := hide hgo; clear hgo)
        | ((with_reducible refine wpList_alloc_row (by rfl) 27 (by rfl) (some 6) (by rfl) go (unhide HGO).symm #[.slice none 0 0] zeroEs ?_); intro W3 HX3 HB3 HS3; simp only [Act.put, List.setIfInBounds_toArray, List.set_cons_zero, List.set_cons_succ]; have HG3 : Hid (u.heap.size ≤ go) := (by rw [unhide HGO]; exact (unhide HB1).size); have HB4 : Hid (Below u.heap.size u W3) := (unhide HB1).trans ((unhide HB3).mono (unhide HG3)); have HV3 : Hid (RE.Var (W3.alloc (.cells #[.string key] 9)) go [] none 0 0) := (Rec.Var.new (unhide HX3) : RE.Var W3 go [] none 0 0).below ((Below.refl _ _).alloc (Nat.le_refl _) _); have HB6 : Hid (Below u.heap.size u (W3.alloc (.cells #[.string key] 9))) := (unhide HB4).alloc (unhide HB4).size _; have HMT : Hid (Calls Try.prog 76 #[.slice ao n c, .slice (some ⟨W3.heap.size, 0, none⟩) 1 1, .func (.func 71) #[] #[], .func (.func 77) #[] #[], .func (.func 78) #[] #[.pointer (some ⟨go, 0, none⟩)]] (W3.alloc (.cells #[.string key] 9)) fun e w' => e = .returned (.tuple #[]) ∧ (∃ xo k c', RE.Var w' go (taks (mgS l [key])) xo k c') ∧ Below u.heap.size u w') := mTake l key ao n c W3.heap.size (unhide HH) (unhide HNN) go (unhide HG3) (by rw [unhide HS3]; exact Nat.succ_ne_self _) _ (unhide HB6) (heap_alloc_new _ _) (unhide HV3))
        | (go_at_call 76; refine (unhide HMT).mono ?_; rintro e W5 ⟨rfl, ⟨xo, k, c', hv⟩, hb⟩; have HB5 := hide hb; have HV5 := hide hv; have hc5 := cell_one hv.box; have hk : k = n := hv.hn.trans ((unhide HLE).trans (unhide HRN).symm); subst hk; clear hb hv)
        | fail)
      go_ret2
      exact ⟨none, 0, 0, rfl, rfl, Rec.Own.none _ _, unhide HB5⟩
    · rw [if_neg h2] at hv
      cases hv
      have HLE := hide h2
      clear h2
      go_enter Try.func36, Try.ntmps36
      go_wp2_with (first
        | (go_at_call 65; refine (unhide HL1 u (Below.refl _ _)).mono ?_; rintro e W1 ⟨rfl, hb⟩; have HB1 := hide hb; clear hb; obtain ⟨go, hgo⟩ : ∃ go, go = W1.heap.size := ⟨_, rfl⟩; have HGO := hide hgo; clear hgo)
        | ((with_reducible refine wpList_alloc_row (by rfl) 27 (by rfl) (some 6) (by rfl) go (unhide HGO).symm #[.slice none 0 0] zeroEs ?_); intro W3 HX3 HB3 HS3; simp only [Act.put, List.setIfInBounds_toArray, List.set_cons_zero, List.set_cons_succ]; have HG3 : Hid (u.heap.size ≤ go) := (by rw [unhide HGO]; exact (unhide HB1).size); have HB4 : Hid (Below u.heap.size u W3) := (unhide HB1).trans ((unhide HB3).mono (unhide HG3)); have HV3 : Hid (RE.Var (W3.alloc (.cells #[.string key] 9)) go [] none 0 0) := (Rec.Var.new (unhide HX3) : RE.Var W3 go [] none 0 0).below ((Below.refl _ _).alloc (Nat.le_refl _) _); have HB6 : Hid (Below u.heap.size u (W3.alloc (.cells #[.string key] 9))) := (unhide HB4).alloc (unhide HB4).size _; have HMT : Hid (Calls Try.prog 76 #[.slice ao n c, .slice (some ⟨W3.heap.size, 0, none⟩) 1 1, .func (.func 71) #[] #[], .func (.func 77) #[] #[], .func (.func 78) #[] #[.pointer (some ⟨go, 0, none⟩)]] (W3.alloc (.cells #[.string key] 9)) fun e w' => e = .returned (.tuple #[]) ∧ (∃ xo k c', RE.Var w' go (taks (mgS l [key])) xo k c') ∧ Below u.heap.size u w') := mTake l key ao n c W3.heap.size (unhide HH) (unhide HNN) go (unhide HG3) (by rw [unhide HS3]; exact Nat.succ_ne_self _) _ (unhide HB6) (heap_alloc_new _ _) (unhide HV3))
        | (go_at_call 76; refine (unhide HMT).mono ?_; rintro e W5 ⟨rfl, ⟨xo, k, c', hv⟩, hb⟩; have HB5 := hide hb; have HV5 := hide hv; have hc5 := cell_one hv.box; have hk : ¬ (k : Int) = (n : Int) := (fun e => unhide HLE (by have h1 := hv.hn; have h2 := unhide HRN; omega)); have hk2 : ((k : Int) == (n : Int)) = false := beq_false_of_ne hk; have hk3 : (k : Int) ≤ 140737488355328 := (by have h1 := unhide HTK; have h2 := unhide HMG; have h3 := hv.hn; have h4 := unhide HRN; have h5 := unhide HNN; omega); clear hb hv)
        | fail)
      go_ret2
      exact ⟨xo, k, c', rfl, (unhide HV5).hn, (unhide HV5).own.down (Nat.le_succ_of_le (unhide HG3)), unhide HB5⟩
  · rw [Bool.not_eq_true] at h1
    rw [h1] at HL1
    rw [if_neg (by rw [h1]; decide)] at hv
    cases hv
    clear h1
    go_enter Try.func36, Try.ntmps36
    go_wp2_with (first
      | (go_at_call 65; refine (unhide HL1 u (Below.refl _ _)).mono ?_; rintro e W1 ⟨rfl, hb⟩; have HB1 := hide hb; clear hb)
      | fail)
    go_ret2
    exact ⟨none, 0, 0, rfl, rfl, Rec.Own.none _ _, unhide HB1⟩
end Go.Proofs.Ytbahlfpcbplofaa.S
