/- The walk of SegmentDiffs. Written by mkshh.py. -/
import Derived.Test.YtbahlfpcbplofaaShf
import Derived.Test.YtbahlfpcbplofaaSgy
namespace Go.Proofs.Ytbahlfpcbplofaa.S
open Go.RowKit Go.Lib
theorem flat_set3 : ∀ (l : List Df) (k : Nat) (x : Df), (((RD.flat l).set (k * 3) (.string x.1)).set (k * 3 + 1) (.string x.2.1)).set (k * 3 + 2) (.string x.2.2) = RD.flat (l.set k x)
  | [], _, _ => by simp [Rec.flat]
  | e :: l, 0, x => by simp [Rec.flat, RD, dcs]
  | e :: l, k + 1, x => by
    have ih := flat_set3 l k x
    have e1 : ∀ (x : Df) (m : List Df), RD.flat (x :: m) = .string x.1 :: .string x.2.1 :: .string x.2.2 :: RD.flat m := fun x m => rfl
    rw [e1, show (k + 1) * 3 = k * 3 + 1 + 1 + 1 by omega]
    simp only [List.set_cons_succ]
    rw [ih, e1]
/-- a record is stored into a list of one's own -/
theorem wpList_store_dfmid {ops : Array Oper} {rest : List Oper} {o : Oper} {a : Act} {w : World} {Q : Exit → Act → World → Prop} (hgd : o.guard = none) (x y : Operand) (ho : o.op = .store 41 x y) (g k c B : Nat) (l : List Df) (p q r : ByteArray) (hown : RD.Own w B l (some ⟨g, 0, none⟩) c) (hk : k < l.length) (hx : a.eval x = .pointer (some ⟨g, k * 3, none⟩)) (hy : a.eval y = .agg #[.string p, .string q, .string r])
    (h : ∀ w', Hid (RD.Own w' B (l.set k (p, q, r)) (some ⟨g, 0, none⟩) c) → Hid (Gr w w' (some ⟨g, 0, none⟩)) → wpList Try.prog ops Q rest (a.put o.dst undef) w') : wpList Try.prog ops Q (o :: rest) a w := by
  have hl : (RD.flat l).length = l.length * 3 := RD.flat_len l
  have ht : w.there g (k * 3) 3 := fun j hj => by
    refine ⟨?_, World.ownsRow.frozenAt hown _⟩
    rw [World.ownsRow.cellAt hown (k * 3 + j) (by show k * 3 + j < l.length * 3; omega), List.getElem?_eq_getElem (by omega)]
    rfl
  have h1 : (storeVar 41 ⟨g, k * 3, none⟩ (.agg #[.string p, .string q, .string r])).run Try.prog w = .ok () (w.setCells g (k * 3) [.string p, .string q, .string r]) := run_storeVar_mid (P := Try.prog) w g (k * 3) 41 #[.string p, .string q, .string r] ht dfInfo (df_one _ _ _)
  have s1 := (World.ownsRow.stored hown (k * 3) (.string p)).1
  have s2 := (s1.stored (k * 3 + 1) (.string q)).1
  have s3 := (s2.stored (k * 3 + 2) (.string r)).1
  rw [flat_set3 l k (p, q, r)] at s3
  refine wpList_plain hgd fun K hK => ?_
  unfold Oper.wp execOp
  simp only [ho, hx, hy, Instr.storeAt, Instr.sureAddr, Sem.run_bind, Sem.run_pure, Result.andThen_ok, h1]
  refine hK _ _ (h _ (hide ?_) (hide (Gr.cell.trans (Gr.cell.trans Gr.cell))))
  show (((w.setCell ⟨g, k * 3, none⟩ (.string p)).setCell ⟨g, k * 3 + 1, none⟩ (.string q)).setCell ⟨g, k * 3 + 2, none⟩ (.string r)).ownsRow B 41 3 _ (l.set k (p, q, r)).length _
  rw [List.length_set]
  exact s3
/-- where a list's row lies -/
def In (o : Option Addr) (lo hi : Nat) : Prop := ∀ ad : Addr, o = some ad → lo ≤ ad.block ∧ ad.block < hi
theorem In.apart {a b : Option Addr} {l1 h1 l2 h2 : Nat} (ha : In a l1 h1) (hb : In b l2 h2) (h : h1 ≤ l2) : apart a b ∧ apart b a :=
  ⟨fun x y ex ey e => by have q1 := ha x ex; have q2 := hb y ey; omega, fun x y ex ey e => by have q1 := ha y ey; have q2 := hb x ex; omega⟩
theorem Dl.gr {w w' : World} {l : List Df} {ao bo : Option Addr} {n c : Nat} (h : Dl w l ao n c) (hg : Gr w w' bo) (hp : apart ao bo) : Dl w' l ao n c := by
  refine ⟨⟨fun h0 => ?_, h.cap, h.nil, h.many⟩, h.hn⟩
  obtain ⟨g, o, e, hr⟩ := h.lies h0
  refine ⟨g, o, e, fun j v hv => ?_⟩
  have h1 := hr j v hv
  have hlt := World.block_lt_of_cell? w _ h1
  have h2 : w'.heap[g]? = w.heap[g]? := hg.block g hlt fun ad e2 hh => hp _ _ e e2 hh.symm
  rw [← h1]
  simp only [World.cell?, h2]
theorem own_keepE {w w' : World} {B : Nat} {l : List En} {ao bo : Option Addr} {c : Nat} (h : RE.Own w B l ao c) (hg : Gr w w' bo) (hp : apart ao bo) : RE.Own w' B l ao c := Own.gr h hg hp
theorem own_addrD {w : World} {B : Nat} {l : List Df} {ao : Option Addr} {c : Nat} (h : RD.Own w B l ao c) (ad : Addr) (e : ao = some ad) : ∃ g, ad = ⟨g, 0, none⟩ := own_addr h ad e
theorem dif_len (a b : List En) : (difV a b).1.length ≤ a.length + b.length := by
  unfold difV
  split
  · exact Nat.le_trans (difs_le _) (mrg_len _ _)
  · exact Nat.zero_le _
theorem OwnD.gr {w w' : World} {B : Nat} {l : List Df} {ao bo : Option Addr} {c : Nat} (h : RD.Own w B l ao c) (hg : Gr w w' bo) (hp : apart ao bo) : RD.Own w' B l ao c := own_keep h fun g hb => by
  refine hg.block g (h.lt g hb).2 fun ad e hh => ?_
  cases ao with
  | none => cases hb
  | some x => exact hp x ad rfl e ((Option.some.inj hb).trans hh.symm)
theorem own_in {w : World} {B : Nat} {l : List Df} {ao : Option Addr} {c : Nat} (h : RD.Own w B l ao c) : In ao B w.heap.size := fun ad e => by
  subst e
  exact World.ownsRow.lt h ad.block rfl
/-- what SegmentDiffs has in its hands -/
structure Dg (w : World) (B : Nat) (a b : List En) (D : List Df) (g1 n c1 g2 m c2 : Nat) (wo : Option Addr) (wk wc : Nat) (yo : Option Addr) (yk yc : Nat) (zo : Option Addr) (zk zc k1 k2 k3 k4 : Nat) : Prop where
  la : Le w B a g1 n c1
  lb : Le w B b g2 m c2
  one : RD.Own w B D wo wc
  hw : wk = D.length
  two : Dl w D yo yk yc
  want : Dl w D zo zk zc
  ia : In (some ⟨g1, 0, none⟩) B k1
  ib : In (some ⟨g2, 0, none⟩) k1 k2
  iz : In zo k2 k3
  iw : In wo k3 k4
  iy : In yo k4 w.heap.size
  o1 : B ≤ k1
  o2 : k1 ≤ k2
  o3 : k2 ≤ k3
  o4 : k3 ≤ k4
  o5 : k4 ≤ w.heap.size
section
variable {w w' : World} {B : Nat} {a b : List En} {D : List Df} {g1 n c1 g2 m c2 : Nat} {wo : Option Addr} {wk wc : Nat} {yo : Option Addr} {yk yc : Nat} {zo : Option Addr} {zk zc k1 k2 k3 k4 : Nat}
theorem Dg.below (h : Dg w B a b D g1 n c1 g2 m c2 wo wk wc yo yk yc zo zk zc k1 k2 k3 k4) (hb : Below w.heap.size w w') : Dg w' B a b D g1 n c1 g2 m c2 wo wk wc yo yk yc zo zk zc k1 k2 k3 k4 :=
  ⟨h.la.below hb, h.lb.below hb, h.one.below hb, h.hw, h.two.below hb, h.want.below hb, h.ia, h.ib, h.iz, h.iw, fun ad e => ⟨(h.iy ad e).1, Nat.lt_of_lt_of_le (h.iy ad e).2 hb.size⟩, h.o1, h.o2, h.o3, h.o4, Nat.le_trans h.o5 hb.size⟩
theorem Dg.e1 (h : Dg w B a b D g1 n c1 g2 m c2 wo wk wc yo yk yc zo zk zc k1 k2 k3 k4) : Dl w D wo wk wc := ⟨h.one.at h.want.many, h.hw⟩
theorem dg_one (h : Dg w B a b D g1 n c1 g2 m c2 wo wk wc yo yk yc zo zk zc k1 k2 k3 k4) : Calls Try.prog 30 #[.slice wo wk wc, .slice zo zk zc] w fun e u' => e = .returned (.bool true) ∧ Below w.heap.size w u' := by
  have := qSameD D D wo zo wk zk wc zc w h.e1 h.want
  rwa [decide_eq_true rfl] at this
theorem dg_two (h : Dg w B a b D g1 n c1 g2 m c2 wo wk wc yo yk yc zo zk zc k1 k2 k3 k4) : Calls Try.prog 30 #[.slice yo yk yc, .slice zo zk zc] w fun e u' => e = .returned (.bool true) ∧ Below w.heap.size w u' := by
  have := qSameD D D yo zo yk zk yc zc w h.two h.want
  rwa [decide_eq_true rfl] at this
theorem dg_overA (h : Dg w B a b D g1 n c1 g2 m c2 wo wk wc yo yk yc zo zk zc k1 k2 k3 k4) : Calls Try.prog 31 #[.slice (some ⟨g1, 0, none⟩) n c1] w fun e w' => e = .returned (.tuple #[]) ∧ ∃ aa, Dg w' B aa b D g1 n c1 g2 m c2 wo wk wc yo yk yc zo zk zc k1 k2 k3 k4 ∧ Below B w w' := by
  refine (lOver a marks _ n c1 B w h.la.own h.la.hn (by rw [h.la.hn]; have := h.la.many; omega)).mono ?_
  rintro e w' ⟨he, ⟨l', hl', ho⟩, hg⟩
  have p2 := (h.ia.apart h.ib (Nat.le_refl _)).2
  have pz := (h.ia.apart h.iz h.o2).2
  have pw := (h.ia.apart h.iw (Nat.le_trans h.o2 h.o3)).2
  have py := (h.ia.apart h.iy (Nat.le_trans h.o2 (Nat.le_trans h.o3 h.o4))).2
  exact ⟨he, l', ⟨⟨ho, by rw [hl']; exact h.la.hn, by rw [hl']; exact h.la.many⟩, ⟨own_keepE h.lb.own hg p2, h.lb.hn, h.lb.many⟩, OwnD.gr h.one hg pw, h.hw, h.two.gr hg py, h.want.gr hg pz, h.ia, h.ib, h.iz, h.iw, fun ad e => ⟨(h.iy ad e).1, Nat.lt_of_lt_of_le (h.iy ad e).2 hg.size⟩, h.o1, h.o2, h.o3, h.o4, Nat.le_trans h.o5 hg.size⟩, hg.below (fun ad e => (h.ia ad e).1) (Nat.le_trans h.o1 (Nat.le_trans h.o2 (Nat.le_trans h.o3 (Nat.le_trans h.o4 h.o5))))⟩
theorem dg_overB (h : Dg w B a b D g1 n c1 g2 m c2 wo wk wc yo yk yc zo zk zc k1 k2 k3 k4) : Calls Try.prog 31 #[.slice (some ⟨g2, 0, none⟩) m c2] w fun e w' => e = .returned (.tuple #[]) ∧ ∃ bb, Dg w' B a bb D g1 n c1 g2 m c2 wo wk wc yo yk yc zo zk zc k1 k2 k3 k4 ∧ Below B w w' := by
  refine (lOver b marks _ m c2 B w h.lb.own h.lb.hn (by rw [h.lb.hn]; have := h.lb.many; omega)).mono ?_
  rintro e w' ⟨he, ⟨l', hl', ho⟩, hg⟩
  have p1 := (h.ia.apart h.ib (Nat.le_refl _)).1
  have pz := (h.ib.apart h.iz (Nat.le_refl _)).2
  have pw := (h.ib.apart h.iw h.o3).2
  have py := (h.ib.apart h.iy (Nat.le_trans h.o3 h.o4)).2
  exact ⟨he, l', ⟨⟨own_keepE h.la.own hg p1, h.la.hn, h.la.many⟩, ⟨ho, by rw [hl']; exact h.lb.hn, by rw [hl']; exact h.lb.many⟩, OwnD.gr h.one hg pw, h.hw, h.two.gr hg py, h.want.gr hg pz, h.ia, h.ib, h.iz, h.iw, fun ad e => ⟨(h.iy ad e).1, Nat.lt_of_lt_of_le (h.iy ad e).2 hg.size⟩, h.o1, h.o2, h.o3, h.o4, Nat.le_trans h.o5 hg.size⟩, hg.below (fun ad e => Nat.le_trans h.o1 (h.ib ad e).1) (Nat.le_trans h.o1 (Nat.le_trans h.o2 (Nat.le_trans h.o3 (Nat.le_trans h.o4 h.o5))))⟩
/-- when the first list is spoiled -/
theorem Dg.spoilt (h : Dg w B a b D g1 n c1 g2 m c2 wo wk wc yo yk yc zo zk zc k1 k2 k3 k4) (hg : Gr w w' wo) : Le w' B a g1 n c1 ∧ Le w' B b g2 m c2 ∧ Dl w' D yo yk yc ∧ Dl w' D zo zk zc ∧ Below B w w' := by
  have pa := (h.ia.apart h.iw (Nat.le_trans h.o2 h.o3)).1
  have pb := (h.ib.apart h.iw h.o3).1
  have pz := (h.iz.apart h.iw (Nat.le_refl _)).1
  have py := (h.iw.apart h.iy (Nat.le_refl _)).2
  exact ⟨⟨own_keepE h.la.own hg pa, h.la.hn, h.la.many⟩, ⟨own_keepE h.lb.own hg pb, h.lb.hn, h.lb.many⟩, h.two.gr hg py, h.want.gr hg pz, hg.below (fun ad e => Nat.le_trans h.o1 (Nat.le_trans h.o2 (Nat.le_trans h.o3 (h.iw ad e).1))) (Nat.le_trans h.o1 (Nat.le_trans h.o2 (Nat.le_trans h.o3 (Nat.le_trans h.o4 h.o5))))⟩
theorem dg_mk {u W1 W2 W3 W4 W5 : World} (b1 : Below u.heap.size u W1) (b2 : Below W1.heap.size W1 W2) (b3 : Below W2.heap.size W2 W3) (b4 : Below W3.heap.size W3 W4) (b5 : Below W4.heap.size W4 W5) (l1 : Le W1 u.heap.size a g1 n c1) (l2 : Le W2 W1.heap.size b g2 m c2) (hz : RD.Own W3 W2.heap.size D zo zc) (hzk : zk = D.length) (hw : RD.Own W4 W3.heap.size D wo wc) (hwk : wk = D.length) (hy : RD.Own W5 W4.heap.size D yo yc) (hyk : yk = D.length) (hD : D.length ≤ 4398046511000) :
    Dg W5 u.heap.size a b D g1 n c1 g2 m c2 wo wk wc yo yk yc zo zk zc W1.heap.size W2.heap.size W3.heap.size W4.heap.size := by
  have b25 := Below.step b2 (Below.step b3 (Below.step b4 b5)) 
  exact ⟨l1.below b25, (l2.below (Below.step b3 (Below.step b4 b5))).down b1.size, (hw.below b5).down (Nat.le_trans b1.size (Nat.le_trans b2.size b3.size)), hwk, ⟨hy.at hD, hyk⟩, ⟨(hz.below (Below.step b4 b5)).at hD, hzk⟩, fun ad e => by cases e; exact World.ownsRow.lt l1.own g1 rfl, fun ad e => by cases e; exact World.ownsRow.lt l2.own g2 rfl, own_in hz, own_in hw, own_in hy, b1.size, b2.size, b3.size, b4.size, b5.size⟩
end
set_option maxRecDepth 100000 in
set_option maxHeartbeats 16000000 in
theorem diffs14_walk (a b : List En) (ao bo : Option Addr) (n m c d : Nat) (u : World) (ha : El u a ao n c) (hb : El u b bo m d) (hn : n ≤ 1099511627) (hm : m ≤ 1099511627) : Calls Try.prog 5 #[.slice ao n c, .slice bo m d] u fun e u' => e = .returned (.bool true) ∧ Below u.heap.size u u' := by
  have HA := hide ha
  have HB := hide hb
  have HNM : Hid (n + m ≤ 1099511627776) := by show n + m ≤ _; omega
  obtain ⟨D, r, hdr⟩ : ∃ d r, difV a b = (d, r) := ⟨_, _, rfl⟩
  have HDR := hide hdr
  have HDV : Hid (∀ (x y : List En) (d : List Df) (r : Int), x.length = n → y.length = m → difV x y = (d, r) → d.length ≤ 1099511627776) := fun x y d r hx hy h => by
    have h1 := dif_len x y
    rw [h, hx, hy] at h1
    have := unhide HNM
    exact Nat.le_trans h1 this
  have HDK := hide (unhide HDV a b D r ha.hn.symm hb.hn.symm hdr)
  have HDL : Hid (D.length ≤ 4398046511000) := Nat.le_trans (unhide HDK) (by decide)
  have HP1 := hide (lLent a ao n c u ha)
  have hrr : (r != r) = false := by simp
  clear ha hb hdr hn hm
  go_enter Try.func5, Try.ntmps5
  go_wp2_with (first
    | (go_at_call 17; refine (unhide HP1).mono ?_; rintro e W1 ⟨g1, c1, rfl, hl, hb⟩; have HB1 := hide hb; have HL1 := hide hl; have HP2 := hide (lLent b bo m d W1 ((unhide HB).below (unhide HB1))); clear hb hl HP1)
    | (go_at_call 17; refine (unhide HP2).mono ?_; rintro e W2 ⟨g2, c2, rfl, hl, hb⟩; have HX2 : Hid (Below W1.heap.size W1 W2) := hb; have HB2 : Hid (Below u.heap.size u W2) := Below.step (unhide HB1) hb; have HL2 := hide hl; have HP3 := hide (qDiff a b ao bo n m c d W2 ((unhide HA).below (unhide HB2)) ((unhide HB).below (unhide HB2)) (unhide HNM) D r (unhide HDR)); clear hb hl HP2)
    | (go_at_call 28; refine (unhide HP3).mono ?_; rintro e W3 ⟨zo, zk, zc, rfl, hk, ho, hb⟩; have HX3 : Hid (Below W2.heap.size W2 W3) := hb; have HB3 : Hid (Below u.heap.size u W3) := Below.step (unhide HB2) hb; have HZ := hide ho; have HZK := hide hk; have HL1' : Hid (Le W3 u.heap.size a g1 n c1) := (unhide HL1).below (Below.step (unhide HX2) hb); have HL2' : Hid (Le W3 W1.heap.size b g2 m c2) := (unhide HL2).below hb; have HP4 := hide (sDiff a b (some ⟨g1, 0, none⟩) (some ⟨g2, 0, none⟩) n m c1 c2 W3 (unhide HL1').el (unhide HL2').el (unhide HNM) D r (unhide HDR)); clear hb ho hk HP3)
    | (go_at_call 29; refine (unhide HP4).mono ?_; rintro e W4 ⟨wo, wk, wc, rfl, hk, ho, hb⟩; have HX4 : Hid (Below W3.heap.size W3 W4) := hb; have HB4 : Hid (Below u.heap.size u W4) := Below.step (unhide HB3) hb; have HW := hide ho; have HWK := hide hk; have HP5 := hide (sDiff a b (some ⟨g1, 0, none⟩) (some ⟨g2, 0, none⟩) n m c1 c2 W4 ((unhide HL1').below hb).el ((unhide HL2').below hb).el (unhide HNM) D r (unhide HDR)); clear hb ho hk HP4)
    | (go_at_call 29; refine (unhide HP5).mono ?_; rintro e W5 ⟨yo, yk, yc, rfl, hk, ho, hb⟩; have HB5 : Hid (Below u.heap.size u W5) := Below.step (unhide HB4) hb; have HDG0 := hide (dg_mk (unhide HB1) (unhide HX2) (unhide HX3) (unhide HX4) hb (unhide HL1) (unhide HL2) (unhide HZ) (unhide HZK) (unhide HW) (unhide HWK) ho hk (unhide HDL)); generalize W1.heap.size = k1 at HDG0; generalize W2.heap.size = k2 at HDG0; generalize W3.heap.size = k3 at HDG0; generalize W4.heap.size = k4 at HDG0; have HP6 := hide (dg_one (unhide HDG0)); clear hb ho hk HP5 HX2 HX3 HX4 HL1 HL2 HL1' HL2' HZ HZK HW HWK HB1 HB2 HB3 HB4)
    | (go_at_call 30; refine (unhide HP6).mono ?_; rintro e W6 ⟨rfl, hb⟩; have HB6 : Hid (Below u.heap.size u W6) := Below.step (unhide HB5) hb; have HDG1 := hide ((unhide HDG0).below hb); have HP7 := hide (dg_two (unhide HDG1)); clear hb HP6 HDG0 HB5)
    | (go_at_call 30; refine (unhide HP7).mono ?_; rintro e W7 ⟨rfl, hb⟩; have HB7 : Hid (Below u.heap.size u W7) := Below.step (unhide HB6) hb; have HDG2 := hide ((unhide HDG1).below hb); have HP8 := hide (lKept a u.heap.size g1 n c1 ao c W7 (unhide HDG2).la ((unhide HA).below (unhide HB7))); clear hb HP7 HDG1 HB6)
    | (go_at_call 26; refine (unhide HP8).mono ?_; rintro e W8 ⟨rfl, hb⟩; have HB8 : Hid (Below u.heap.size u W8) := Below.step (unhide HB7) hb; have HDG3 := hide ((unhide HDG2).below hb); have HP9 := hide (lKept b u.heap.size g2 m c2 bo d W8 (unhide HDG3).lb ((unhide HB).below (unhide HB8))); clear hb HP8 HDG2 HB7)
    | (go_at_call 26; refine (unhide HP9).mono ?_; rintro e W9 ⟨rfl, hb⟩; have HB9 : Hid (Below u.heap.size u W9) := Below.step (unhide HB8) hb; have HDG4 := hide ((unhide HDG3).below hb); have HPA := hide (dg_overA (unhide HDG4)); clear hb HP9 HDG3 HB8)
    | (go_at_call 31; refine (unhide HPA).mono ?_; rintro e W10 ⟨rfl, aa, hdg, hb⟩; have HB10 : Hid (Below u.heap.size u W10) := (unhide HB9).trans hb; have HDG5 := hide hdg; have HPB := hide (dg_overB hdg); clear hb hdg HPA HDG4 HB9)
    | (go_at_call 31; refine (unhide HPB).mono ?_; rintro e W11 ⟨rfl, bb, hdg, hb⟩; have HB11 : Hid (Below u.heap.size u W11) := (unhide HB10).trans hb; have HDG6 := hide hdg; have HPC := hide (dg_one hdg); clear hb hdg HPB HDG5 HB10)
    | (go_at_call 30; refine (unhide HPC).mono ?_; rintro e W12 ⟨rfl, hb⟩; have HB12 : Hid (Below u.heap.size u W12) := Below.step (unhide HB11) hb; have HDG7 := hide ((unhide HDG6).below hb); clear hb HPC HDG6 HB11)
    | fail)
  have HKM : Hid (wk ≤ 1099511627776) := by show wk ≤ _; rw [(unhide HDG7).hw]; exact unhide HDK
  have hwki : (wk : Int) ≤ 1099511627776 := by have := unhide HKM; omega
  go_loopw [13] (fun si wr => ∃ (i : Nat) (lx : List Df), i ≤ wk ∧ si = .int .i64 i ∧ Hid (lx.length = wk) ∧ Hid (RD.Own wr u.heap.size lx wo wc) ∧ Hid (Gr W12 wr wo)) (fun si _ => wk - (intOf si).toNat)
  case atStart => exact ⟨0, D, Nat.zero_le _, rfl, (unhide HDG7).hw.symm, (unhide HDG7).one, Gr.refl _ _⟩
  case round =>
    obtain ⟨i, lx, hin, rfl, HL, HO, HG⟩ := hrel
    by_cases hlt : i < wk
    · have hii : (i : Int) < (wk : Int) := by omega
      have HIL : Hid (i < lx.length) := by show i < _; rw [unhide HL]; exact hlt
      obtain ⟨g, hg⟩ : ∃ g, wo = some ⟨g, 0, none⟩ := by
        rcases (unhide HO).2 with ⟨_, hz⟩ | ⟨g, cap, cur, hv, _⟩
        · have := unhide HIL; omega
        · simp only [Value.slice.injEq] at hv; exact ⟨g, hv.1⟩
      subst hg
      have hix : ∀ W : World, (Instr.indexAt 35 (.slice (some ⟨g, 0, none⟩) wk wc) (.int .i64 (i : Int))).run Try.prog W = .ok (.pointer (some ⟨g, i * 3, none⟩)) W := fun W => by
        have := ixDf g 0 wk wc i hlt W
        rwa [Nat.zero_add] at this
      clear HDG7 HDR HDV HDL HNM
      go_wp2_with (first
        | ((with_reducible refine wpList_store_dfmid (by rfl) (.tmp 87) (.tmp 86) (by rfl) g i wc u.heap.size lx ⟨#[115, 112, 111, 105, 108, 116]⟩ ⟨#[]⟩ ⟨#[]⟩ (unhide HO) (unhide HIL) (by with_unfolding_all rfl) (by with_unfolding_all rfl) ?_); intro W2 HO2 HG2; simp only [Act.put])
        | fail)
      go_wp2
      go_roundw
      case rel => exact ⟨i + 1, lx.set i (⟨#[115, 112, 111, 105, 108, 116]⟩, ⟨#[]⟩, ⟨#[]⟩), by omega, by go_num, by rw [List.length_set]; exact unhide HL, unhide HO2, (unhide HG).trans (unhide HG2)⟩
      case measure => simp [intOf]; omega
    · obtain rfl : i = wk := by omega
      have hki : ¬ (i : Int) < (i : Int) := by omega
      go_wp2_with fail
      go_loopw [9, 14] (fun s0 s2 wr => ∃ (k n' c' : Nat) (xo : Option Addr) (li : List Df), k ≤ 70 ∧ s2 = .int .i64 k ∧ s0 = .slice xo n' c' ∧ Hid (n' = li.length ∧ li.length ≤ i + k) ∧ Hid (RD.Own wr u.heap.size li xo c') ∧ Hid (Gr W12 wr wo) ∧ Hid (∀ ad' : Addr, xo = some ad' → (∃ ad : Addr, wo = some ad ∧ ad.block = ad'.block) ∨ W12.heap.size ≤ ad'.block)) (fun _ s2 _ => 70 - (intOf s2).toNat)
      case atStart => exact ⟨0, i, wc, wo, lx, by decide, rfl, rfl, ⟨(unhide HL).symm, Nat.le_of_eq (unhide HL)⟩, unhide HO, unhide HG, fun ad e => .inl ⟨ad, e, rfl⟩⟩
      case round =>
        clear HO HG HL
        obtain ⟨k, n2, c2', x2, li, hk, rfl, rfl, HL, HO, HG, HX⟩ := hrel
        by_cases hlt : k < 70
        · have hki : (k : Int) < 70 := by omega
          have HO3 : Hid (RD.Own (wr.alloc (.cells #[.string beW, .string ⟨#[]⟩, .string ⟨#[]⟩] 41)) u.heap.size li x2 c2') := (unhide HO).below ((Below.refl _ _).alloc (Nat.le_refl _) _)
          have HA3 : Hid (RD.At (wr.alloc (.cells #[.string beW, .string ⟨#[]⟩, .string ⟨#[]⟩] 41)) [(beW, ⟨#[]⟩, ⟨#[]⟩)] (some ⟨wr.heap.size, 0, none⟩) 1) := RD.one wr (beW, ⟨#[]⟩, ⟨#[]⟩) _
          have HL3 : Hid ((li.length + [((beW, ⟨#[]⟩, ⟨#[]⟩) : Df)].length) * 48 ≤ 140737488355328) := by
            have h1 := (unhide HL).2
            have h2 := unhide HKM
            rw [List.length_singleton]
            show (li.length + 1) * 48 ≤ 140737488355328
            omega
          have HS3 : Hid (u.heap.size ≤ (wr.alloc (.cells #[.string beW, .string ⟨#[]⟩, .string ⟨#[]⟩] 41)).heap.size) := Nat.le_trans (Nat.le_trans (unhide HB12).size (unhide HG).size) (szNew wr _)
          go_wp2_with (first
            | (at_builtin; (with_reducible refine wpList_putD (by rfl) (.tmp 92) (.tmp 94) (by rfl) (some 95) (by rfl) u.heap.size li [(beW, ⟨#[]⟩, ⟨#[]⟩)] n2 1 (unhide HL).1 rfl x2 (some ⟨wr.heap.size, 0, none⟩) c2' 1 (by with_unfolding_all rfl) (by with_unfolding_all rfl) (unhide HO3) (unhide HA3) (unhide HL3) (unhide HS3) ?_); intro x4 n4 c4 W4 HP4; simp only [Act.put, List.setIfInBounds_toArray, List.set_cons_zero, List.set_cons_succ])
            | fail)
          go_wp2
          go_roundw
          case rel =>
            refine ⟨k + 1, n4, c4, x4, li ++ [((beW, ⟨#[]⟩, ⟨#[]⟩) : Df)], by omega, by go_num, rfl, ⟨(unhide HP4).len, ?_⟩, (unhide HP4).own, ?_, ?_⟩
            · have h1 := (unhide HL).2
              rw [List.length_append, List.length_singleton]; omega
            · obtain ⟨e1, e2, e3, e4, e5⟩ := (unhide HP4).grown
              have hs := szNew wr (.cells #[.string beW, .string ⟨#[]⟩, .string ⟨#[]⟩] 41)
              refine ⟨e1.trans (unhide HG).os, e2.trans (unhide HG).tape, e3.trans (unhide HG).output, Nat.le_trans (unhide HG).size (Nat.le_trans hs e4), fun j hj hne => ?_⟩
              have hjw : j < wr.heap.size := Nat.lt_of_lt_of_le hj (unhide HG).size
              refine (e5 j (Nat.lt_of_lt_of_le hjw hs) fun e => ?_).trans ((((Below.refl wr.heap.size wr).alloc (Nat.le_refl _) _).block j hjw).trans ((unhide HG).block j hj hne))
              cases x2 with
              | none => cases e
              | some ad' =>
                have e : j = ad'.block := Option.some.inj e
                rcases unhide HX ad' rfl with ⟨ad, h1, h2⟩ | h
                · exact hne ad h1 (h2.trans e.symm)
                · omega
            · intro ad' e
              obtain ⟨g, rfl⟩ := own_addrD (unhide HP4).own ad' e
              rcases (unhide HP4).new g 0 e with ⟨o', h⟩ | h
              · exact unhide HX ⟨g, o', none⟩ h
              · exact .inr (Nat.le_trans (unhide HG).size (Nat.le_trans (szNew wr _) h))
          case measure => simp [intOf]; omega
        · obtain rfl : k = 70 := by omega
          obtain ⟨qa, qb, qy, qz, qb2⟩ := (unhide HDG7).spoilt (unhide HG)
          have HLA0 := hide qa
          have HLB0 := hide qb
          have HB14 : Hid (Below u.heap.size u wr) := (unhide HB12).trans qb2
          have HPD : Hid (Calls Try.prog 30 #[.slice yo yk yc, .slice zo zk zc] wr fun e u' => e = .returned (.bool true) ∧ Below wr.heap.size wr u') := by
            have h1 := qSameD D D yo zo yk zk yc zc wr qy qz
            rwa [decide_eq_true rfl] at h1
          clear qa qb qy qz qb2 HDG7 HO HG HL HX
          obtain ⟨d2, r2, hd2⟩ : ∃ d r, difV aa bb = (d, r) := ⟨_, _, rfl⟩
          have HD2 := hide hd2
          have HD2L : Hid (d2.length ≤ 4398046511000) := Nat.le_trans (unhide HDV aa bb d2 r2 (unhide HLA0).hn.symm (unhide HLB0).hn.symm hd2) (by decide)
          have hr2 : (r2 == r2) = true := by simp
          clear hd2
          go_wp2_with (first
            | (go_at_call 30; refine (unhide HPD).mono ?_; rintro e W13 ⟨rfl, hb⟩; have HB13 : Hid (Below u.heap.size u W13) := Below.step (unhide HB14) hb; have HLA := hide ((unhide HLA0).below hb); have HLB := hide ((unhide HLB0).below hb); have HEA := hide (unhide HLA).el; have HEB := hide (unhide HLB).el; have HNA : Hid (n = aa.length) := (unhide HLA).hn; have HNB : Hid (m = bb.length) := (unhide HLB).hn; have HRF : Hid (Below W13.heap.size W13 W13) := Below.refl _ _; clear hb HPD HLA0 HLB0 HB14)
            | (at_builtin; (with_reducible refine wpList_putE (by rfl) (.tmp 101) (.tmp 102) (by rfl) (some 103) (by rfl) W13.heap.size [] aa 0 n rfl (unhide HNA) (some ⟨W13.heap.size, 0, none⟩) (some ⟨g1, 0, none⟩) 0 c1 (by with_unfolding_all rfl) (by with_unfolding_all rfl) (Own.empty W13 _ (Nat.le_refl _)) (atNew (unhide HEA) (unhide HRF) _) (unhide HEA).l0 (szNew W13 _) ?_); intro x14 n14 c14 W14 HP14; simp only [Act.put, List.setIfInBounds_toArray, List.set_cons_zero, List.set_cons_succ]; have HB14 : Hid (Below W13.heap.size W13 W14) := Below.step (unhide HRF) ((unhide HP14).below0); have hn14 : n = n14 := ((unhide HP14).len.trans (unhide HNA).symm).symm; subst hn14; have HN14 : Hid (El W14 aa x14 n c14) := ⟨(unhide HP14).own.at (unhide HEA).many, unhide HNA⟩)
            | (at_builtin; (with_reducible refine wpList_putE (by rfl) (.tmp 104) (.tmp 105) (by rfl) (some 106) (by rfl) W14.heap.size [] bb 0 m rfl (unhide HNB) (some ⟨W14.heap.size, 0, none⟩) (some ⟨g2, 0, none⟩) 0 c2 (by with_unfolding_all rfl) (by with_unfolding_all rfl) (Own.empty W14 _ (Nat.le_refl _)) (atNew (unhide HEB) (unhide HB14) _) (unhide HEB).l0 (szNew W14 _) ?_); intro x15 n15 c15 W15 HP15; simp only [Act.put, List.setIfInBounds_toArray, List.set_cons_zero, List.set_cons_succ]; have HB15 : Hid (Below W13.heap.size W13 W15) := Below.step (unhide HB14) ((unhide HP15).below0); have hn15 : m = n15 := ((unhide HP15).len.trans (unhide HNB).symm).symm; subst hn15; have HN15 : Hid (El W15 bb x15 m c15) := ⟨(unhide HP15).own.at (unhide HEB).many, unhide HNB⟩; have HN14b := hide ((unhide HN14).below ((unhide HP15).below0)); have HPE := hide (qDiff aa bb x14 x15 n m c14 c15 W15 (unhide HN14b) (unhide HN15) (unhide HNM) d2 r2 (unhide HD2)))
            | (go_at_call 28; refine (unhide HPE).mono ?_; rintro e W16 ⟨vo, vk, vc, rfl, hk, ho, hb⟩; have HB16 : Hid (Below W13.heap.size W13 W16) := Below.step (unhide HB15) hb; have HV := hide ho; have HVK := hide hk; have HPF := hide (sDiff aa bb (some ⟨g1, 0, none⟩) (some ⟨g2, 0, none⟩) n m c1 c2 W16 ((unhide HEA).below (unhide HB16)) ((unhide HEB).below (unhide HB16)) (unhide HNM) d2 r2 (unhide HD2)); clear hb ho hk HPE)
            | (go_at_call 29; refine (unhide HPF).mono ?_; rintro e W17 ⟨so, sk, sc, rfl, hk, ho, hb⟩; have HB17 : Hid (Below W13.heap.size W13 W17) := Below.step (unhide HB16) hb; have HPG : Hid (Calls Try.prog 30 #[.slice so sk sc, .slice vo vk vc] W17 fun e u' => e = .returned (.bool true) ∧ Below W17.heap.size W17 u') := (by have h1 := qSameD d2 d2 so vo sk vk sc vc W17 ⟨ho.at (unhide HD2L), hk⟩ ⟨((unhide HV).below hb).at (unhide HD2L), unhide HVK⟩; rwa [decide_eq_true rfl] at h1); clear hb ho hk HPF)
            | (go_at_call 30; refine (unhide HPG).mono ?_; rintro e W18 ⟨rfl, hb⟩; have HB18 : Hid (Below u.heap.size u W18) := Below.step (unhide HB13) (Below.step (unhide HB17) hb); clear hb HPG)
            | fail)
          go_ret
          exact ⟨rfl, unhide HB18⟩
end Go.Proofs.Ytbahlfpcbplofaa.S
