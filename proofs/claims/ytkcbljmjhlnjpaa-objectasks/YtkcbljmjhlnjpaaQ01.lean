/- Put together out of Mm, Xa, Xb, Xc, Xd. -/
import Derived.Test.YtkcbljmjhlnjpaaRows
import Derived.WalkKit
import Derived.WalkLawsBesides
import Derived.ProofKit
import Derived.OpenShut
import Derived.Handy
import Derived.Below
import Derived.Laws.Rows
import Derived.Laws.BitsAllLaws
import Derived.Deep.QuietTactic
import Derived.Deep.RegionHeld3
import Derived.Deep.RegionWith
import Derived.Deep.MidRow
import Derived.Deep.OwnRows
import Derived.Deep.Heap
import Derived.Lib.ConvBytes
import Derived.Laws.Tables
import Derived.BigQuiet
namespace Go.Proofs.Ytkcbljmjhlnjpaa
open Go.RowKit

theorem hide {p : Prop} (h : p) : Hid p := h
theorem unhide {p : Prop} (h : Hid p) : p := h
theorem heapCell_same {w : World} {g : Nat} {cs : Array Value} {t : TypeId} {fr : Nat × Nat} (h : w.heap[g]? = some (.cells cs t fr)) (k : Nat) (v : Value) : (w.setCell ⟨g, k, none⟩ v).heap[g]? = some (.cells (cs.setIfInBounds k v) t fr) := by
  simp [World.setCell, Array.getElem?_modify, h]
theorem belowCell {B : Nat} {a w : World} (h : Below B a w) {p : Addr} (hg : B ≤ p.block) (v : Value) : Below B a (w.setCell p v) :=
  ⟨h.os, h.tape, h.output, by simpa [World.setCell] using h.size, fun k hk => (Deep.blk_setCell_other w p v k (by omega)).trans (h.block k hk)⟩
theorem belowDrewN {B : Nat} {a w : World} (h : Below B a w) (n : Nat) : Below B a (w.drewN n) := ⟨h.os, h.tape, h.output, h.size, h.block⟩
/-- what is done to the block g, and to new ones, alone -/
structure U1 (w w' : World) (g : Nat) : Prop where
  os : w'.os = w.os
  tape : w'.tape = w.tape
  output : w'.output = w.output
  size : w.heap.size ≤ w'.heap.size
  block : ∀ k, k < w.heap.size → k ≠ g → w'.heap[k]? = w.heap[k]?
theorem U1.refl (w : World) (g : Nat) : U1 w w g := ⟨rfl, rfl, rfl, Nat.le_refl _, fun _ _ _ => rfl⟩
theorem U1.set {w w' : World} {g : Nat} (h : U1 w w' g) (k : Nat) (v : Value) : U1 w (w'.setCell ⟨g, k, none⟩ v) g :=
  ⟨h.os, h.tape, h.output, by simpa [World.setCell] using h.size, fun q hq hn => (Deep.blk_setCell_other w' ⟨g, k, none⟩ v q hn).trans (h.block q hq hn)⟩
theorem U1.trans {a b c : World} {g : Nat} (h : U1 a b g) (k : U1 b c g) : U1 a c g :=
  ⟨k.os.trans h.os, k.tape.trans h.tape, k.output.trans h.output, Nat.le_trans h.size k.size, fun q hq hn => (k.block q (Nat.lt_of_lt_of_le hq h.size) hn).trans (h.block q hq hn)⟩
theorem U1.below' {a b : World} {g : Nat} (h : Below a.heap.size a b) : U1 a b g := ⟨h.os, h.tape, h.output, h.size, fun q hq _ => h.block q hq⟩
theorem U1.toBelow {w w' : World} {g B : Nat} (h : U1 w w' g) (hB : B ≤ w.heap.size) (hg : B ≤ g) : Below B w w' := ⟨h.os, h.tape, h.output, h.size, fun k hk => h.block k (by omega) (by omega)⟩
theorem U1.drewN {a b : World} {g : Nat} (h : U1 a b g) (n : Nat) : U1 a (b.drewN n) g := ⟨h.os, h.tape, h.output, h.size, h.block⟩
theorem U1.drew {a b : World} {g : Nat} (h : U1 a b g) : U1 a b.drew g := ⟨h.os, h.tape, h.output, h.size, h.block⟩
/-- a new variable that holds a value -/
theorem wpList_box_row {P : Program} {ops : Array Oper} {rest : List Oper} {o : Oper} {a : Act} {w : World} {Q : Exit → Act → World → Prop} (hg : o.guard = none) (t : TypeId) (x : Operand) (ho : o.op = .box t x) (d : Option Tmp) (hd : o.dst = d)
    (N : Nat) (hN : w.heap.size = N) (cells : Array Value) (hx : (a.eval x).cells = cells)
    (h : ∀ w', Hid (w'.heap[N]? = some (.cells cells t (0, 0))) → Hid (Below N w w') → Hid (w'.heap.size = N + 1) → wpList P ops Q rest (a.put d (.pointer (some ⟨N, 0, none⟩))) w') : wpList P ops Q (o :: rest) a w := by
  subst hN
  subst hd hx
  refine wpList_plain hg fun K hK => ?_
  unfold Oper.wp execOp
  simp only [ho, Sem.run_bind, Instr.box, newVar, newRow, run_newObj_alloc, Sem.run_pure, Result.andThen_ok]
  exact hK _ _ (h _ (heap_alloc_new _ _) ((Below.refl _ _).alloc (Nat.le_refl _) _) (hide (by simp)))
end Go.Proofs.Ytkcbljmjhlnjpaa
namespace Go.Proofs.Ytkcbljmjhlnjpaa.V

/-- an actor's count -/
def cnt : List (Nat × Nat) → Nat → Nat
  | [], _ => 0
  | d :: l, a => if d.1 = a then d.2 else cnt l a
/-- actors rise, counts are 1 to 2^40 -/
def Up (l : List (Nat × Nat)) : Prop := l.Pairwise fun x y => x.1 < y.1
def Pos (l : List (Nat × Nat)) : Prop := ∀ d ∈ l, 1 ≤ d.2 ∧ d.2 ≤ 1099511627776
structure Vec (l : List (Nat × Nat)) : Prop where
  up : Up l
  pos : Pos l
structure Ok (l : List (Nat × Nat)) : Prop extends Vec l where
  len : l.length ≤ 64
/-- the greater of two -/
def later (x y : Nat × Nat) : Nat × Nat := if x.2 < y.2 then y else x
/-- the max of two -/
def mrg : List (Nat × Nat) → List (Nat × Nat) → List (Nat × Nat)
  | [], b => b
  | x :: a, [] => x :: a
  | x :: a, y :: b => if x.1 < y.1 then x :: mrg a (y :: b) else if y.1 < x.1 then y :: mrg (x :: a) b else later x y :: mrg a b
termination_by a b => a.length + b.length
theorem mrg_nil (a : List (Nat × Nat)) : mrg a [] = a := by cases a <;> simp [mrg]
theorem nil_mrg (a : List (Nat × Nat)) : mrg [] a = a := by simp [mrg]
theorem cnt_zero_of {l : List (Nat × Nat)} {a : Nat} (h : ∀ d ∈ l, d.1 ≠ a) : cnt l a = 0 := by
  induction l with
  | nil => rfl
  | cons d l ih => simp only [cnt]; rw [if_neg (h d (List.mem_cons_self ..)), ih (fun x hx => h x (List.mem_cons_of_mem _ hx))]
theorem cnt_mem {l : List (Nat × Nat)} (hu : Up l) {d : Nat × Nat} (hd : d ∈ l) : cnt l d.1 = d.2 := by
  induction l with
  | nil => cases hd
  | cons x l ih =>
    simp only [cnt]
    rcases List.mem_cons.1 hd with rfl | hd
    · simp
    · have := (List.pairwise_cons.1 hu).1 d hd
      rw [if_neg (by omega), ih (List.pairwise_cons.1 hu).2 hd]
theorem cnt_pos {l : List (Nat × Nat)} {a : Nat} (h : cnt l a ≠ 0) : ∃ d ∈ l, d.1 = a ∧ d.2 = cnt l a := by
  induction l with
  | nil => simp [cnt] at h
  | cons x l ih =>
    simp only [cnt] at h ⊢
    by_cases e : x.1 = a
    · exact ⟨x, List.mem_cons_self .., e, by rw [if_pos e]⟩
    · rw [if_neg e] at h ⊢
      obtain ⟨d, h1, h2, h3⟩ := ih h
      exact ⟨d, List.mem_cons_of_mem _ h1, h2, h3⟩
theorem cnt_lt {l : List (Nat × Nat)} {x : Nat × Nat} (hu : Up (x :: l)) {a : Nat} (ha : a ≤ x.1) : cnt l a = 0 :=
  cnt_zero_of fun d hd => by have := (List.pairwise_cons.1 hu).1 d hd; omega
theorem cnt_le {l : List (Nat × Nat)} (h : Pos l) (a : Nat) : cnt l a ≤ 1099511627776 := by
  by_cases h0 : cnt l a = 0
  · omega
  · obtain ⟨d, h1, h2, h3⟩ := cnt_pos h0
    have := (h d h1).2; omega
theorem Vec.tail {x : Nat × Nat} {l : List (Nat × Nat)} (h : Vec (x :: l)) : Vec l := ⟨(List.pairwise_cons.1 h.up).2, fun d hd => h.pos d (List.mem_cons_of_mem _ hd)⟩
/-- two vectors that count alike are one -/
theorem ext {l m : List (Nat × Nat)} (hl : Vec l) (hm : Vec m) (h : ∀ a, cnt l a = cnt m a) : l = m := by
  induction l generalizing m with
  | nil =>
    cases m with
    | nil => rfl
    | cons y m => have := h y.1; have := (hm.pos y (List.mem_cons_self ..)).1; simp [cnt] at *; omega
  | cons x l ih =>
    cases m with
    | nil => have := h x.1; have := (hl.pos x (List.mem_cons_self ..)).1; simp [cnt] at *; omega
    | cons y m =>
      have p1 := (hl.pos x (List.mem_cons_self ..)).1
      have p2 := (hm.pos y (List.mem_cons_self ..)).1
      have e1 : x.1 = y.1 := by
        rcases Nat.lt_trichotomy x.1 y.1 with q | q | q
        · have := h x.1
          simp only [cnt, if_true] at this
          rw [if_neg (by omega), cnt_lt hm.up (by omega)] at this
          omega
        · exact q
        · have := h y.1
          simp only [cnt, if_true] at this
          rw [if_neg (by omega), cnt_lt hl.up (by omega)] at this
          omega
      have e2 : x.2 = y.2 := by
        have := h x.1
        simp only [cnt, if_true] at this
        rw [if_pos e1.symm] at this
        exact this
      have exy : x = y := Prod.ext e1 e2
      subst exy
      rw [ih hl.tail hm.tail fun a => ?_]
      have := h a
      simp only [cnt] at this
      by_cases q : x.1 = a
      · subst q; rw [cnt_lt hl.up (Nat.le_refl _), cnt_lt hm.up (Nat.le_refl _)]
      · rw [if_neg q, if_neg q] at this; exact this
theorem mrg_mem {a b : List (Nat × Nat)} : ∀ d ∈ mrg a b, (∃ x ∈ a, x.1 = d.1) ∨ ∃ y ∈ b, y.1 = d.1 := by
  induction a, b using mrg.induct with
  | case1 b => intro d hd; rw [nil_mrg] at hd; exact .inr ⟨d, hd, rfl⟩
  | case2 x a => intro d hd; rw [mrg_nil] at hd; exact .inl ⟨d, hd, rfl⟩
  | case3 x a y b h ih =>
    intro d hd
    rw [mrg, if_pos h] at hd
    rcases List.mem_cons.1 hd with rfl | hd
    · exact .inl ⟨d, List.mem_cons_self .., rfl⟩
    · rcases ih d hd with ⟨z, hz, e⟩ | ⟨z, hz, e⟩
      · exact .inl ⟨z, List.mem_cons_of_mem _ hz, e⟩
      · exact .inr ⟨z, hz, e⟩
  | case4 x a y b h h2 ih =>
    intro d hd
    rw [mrg, if_neg h, if_pos h2] at hd
    rcases List.mem_cons.1 hd with rfl | hd
    · exact .inr ⟨d, List.mem_cons_self .., rfl⟩
    · rcases ih d hd with ⟨z, hz, e⟩ | ⟨z, hz, e⟩
      · exact .inl ⟨z, hz, e⟩
      · exact .inr ⟨z, List.mem_cons_of_mem _ hz, e⟩
  | case5 x a y b h h2 ih =>
    intro d hd
    rw [mrg, if_neg h, if_neg h2] at hd
    rcases List.mem_cons.1 hd with rfl | hd
    · refine .inl ⟨x, List.mem_cons_self .., ?_⟩
      unfold later; split <;> omega
    · rcases ih d hd with ⟨z, hz, e⟩ | ⟨z, hz, e⟩
      · exact .inl ⟨z, List.mem_cons_of_mem _ hz, e⟩
      · exact .inr ⟨z, List.mem_cons_of_mem _ hz, e⟩
theorem later_fst {x y : Nat × Nat} (h : x.1 = y.1) : (later x y).1 = x.1 := by unfold later; split <;> omega
theorem later_snd (x y : Nat × Nat) : (later x y).2 = max x.2 y.2 := by unfold later; split <;> omega
theorem mrg_vec {a b : List (Nat × Nat)} (ha : Vec a) (hb : Vec b) : Vec (mrg a b) := by
  induction a, b using mrg.induct with
  | case1 b => rw [nil_mrg]; exact hb
  | case2 x a => rw [mrg_nil]; exact ha
  | case3 x a y b h ih =>
    rw [mrg, if_pos h]
    have hv := ih ha.tail hb
    refine ⟨List.pairwise_cons.2 ⟨fun d hd => ?_, hv.up⟩, fun d hd => ?_⟩
    · rcases mrg_mem d hd with ⟨z, hz, e⟩ | ⟨z, hz, e⟩
      · have := (List.pairwise_cons.1 ha.up).1 z hz; omega
      · rcases List.mem_cons.1 hz with rfl | hz
        · omega
        · have := (List.pairwise_cons.1 hb.up).1 z hz; omega
    · rcases List.mem_cons.1 hd with rfl | hd
      · exact ha.pos _ (List.mem_cons_self ..)
      · exact hv.pos d hd
  | case4 x a y b h h2 ih =>
    rw [mrg, if_neg h, if_pos h2]
    have hv := ih ha hb.tail
    refine ⟨List.pairwise_cons.2 ⟨fun d hd => ?_, hv.up⟩, fun d hd => ?_⟩
    · rcases mrg_mem d hd with ⟨z, hz, e⟩ | ⟨z, hz, e⟩
      · rcases List.mem_cons.1 hz with rfl | hz
        · omega
        · have := (List.pairwise_cons.1 ha.up).1 z hz; omega
      · have := (List.pairwise_cons.1 hb.up).1 z hz; omega
    · rcases List.mem_cons.1 hd with rfl | hd
      · exact hb.pos _ (List.mem_cons_self ..)
      · exact hv.pos d hd
  | case5 x a y b h h2 ih =>
    rw [mrg, if_neg h, if_neg h2]
    have hv := ih ha.tail hb.tail
    have hxy : x.1 = y.1 := by omega
    have p1 := ha.pos x (List.mem_cons_self ..)
    have p2 := hb.pos y (List.mem_cons_self ..)
    refine ⟨List.pairwise_cons.2 ⟨fun d hd => ?_, hv.up⟩, fun d hd => ?_⟩
    · rw [later_fst hxy]
      rcases mrg_mem d hd with ⟨z, hz, e⟩ | ⟨z, hz, e⟩
      · have := (List.pairwise_cons.1 ha.up).1 z hz; omega
      · have := (List.pairwise_cons.1 hb.up).1 z hz; omega
    · rcases List.mem_cons.1 hd with rfl | hd
      · rw [later_snd]; omega
      · exact hv.pos d hd
theorem cnt_mrg {a b : List (Nat × Nat)} (ha : Vec a) (hb : Vec b) (k : Nat) : cnt (mrg a b) k = max (cnt a k) (cnt b k) := by
  induction a, b using mrg.induct with
  | case1 b => rw [nil_mrg]; simp [cnt]
  | case2 x a => rw [mrg_nil]; simp [cnt]
  | case3 x a y b h ih =>
    rw [mrg, if_pos h, cnt, ih ha.tail hb]
    by_cases e : x.1 = k
    · rw [if_pos e, show cnt (x :: a) k = x.2 by rw [cnt, if_pos e]]
      have : cnt (y :: b) k = 0 := by rw [cnt, if_neg (by omega)]; exact cnt_lt hb.up (by omega)
      omega
    · rw [if_neg e, show cnt (x :: a) k = cnt a k by rw [cnt, if_neg e]]
  | case4 x a y b h h2 ih =>
    rw [mrg, if_neg h, if_pos h2, cnt, ih ha hb.tail]
    by_cases e : y.1 = k
    · rw [if_pos e, show cnt (y :: b) k = y.2 by rw [cnt, if_pos e]]
      have : cnt (x :: a) k = 0 := by rw [cnt, if_neg (by omega)]; exact cnt_lt ha.up (by omega)
      omega
    · rw [if_neg e, show cnt (y :: b) k = cnt b k by rw [cnt, if_neg e]]
  | case5 x a y b h h2 ih =>
    have hxy : x.1 = y.1 := by omega
    rw [mrg, if_neg h, if_neg h2, cnt, ih ha.tail hb.tail, later_fst hxy, cnt, cnt]
    by_cases e : x.1 = k
    · rw [if_pos e, if_pos e, if_pos (by omega), later_snd]
    · rw [if_neg e, if_neg e, if_neg (by omega)]
theorem mrg_len_le (a b : List (Nat × Nat)) : (mrg a b).length ≤ a.length + b.length := by
  induction a, b using mrg.induct with
  | case1 b => rw [nil_mrg]; simp
  | case2 x a => rw [mrg_nil]; simp
  | case3 x a y b h ih => rw [mrg, if_pos h]; simp at *; omega
  | case4 x a y b h h2 ih => rw [mrg, if_neg h, if_pos h2]; simp at *; omega
  | case5 x a y b h h2 ih => rw [mrg, if_neg h, if_neg h2]; simp at *; omega
theorem len_mrg_ge (a b : List (Nat × Nat)) : a.length ≤ (mrg a b).length ∧ b.length ≤ (mrg a b).length := by
  induction a, b using mrg.induct with
  | case1 b => rw [nil_mrg]; simp
  | case2 x a => rw [mrg_nil]; simp
  | case3 x a y b h ih => rw [mrg, if_pos h]; simp at *; omega
  | case4 x a y b h h2 ih => rw [mrg, if_neg h, if_pos h2]; simp at *; omega
  | case5 x a y b h h2 ih => rw [mrg, if_neg h, if_neg h2]; simp at *; omega
/-- a is below b -/
def Bel (a b : List (Nat × Nat)) : Prop := ∀ k, cnt a k ≤ cnt b k
theorem mrg_eq_iff {a b : List (Nat × Nat)} (ha : Vec a) (hb : Vec b) : mrg a b = b ↔ Bel a b := by
  constructor
  · intro h k
    have := cnt_mrg ha hb k
    rw [h] at this; omega
  · intro h
    refine ext (mrg_vec ha hb) hb fun k => ?_
    rw [cnt_mrg ha hb]; have := h k; omega
theorem mrg_comm {a b : List (Nat × Nat)} (ha : Vec a) (hb : Vec b) : mrg a b = mrg b a :=
  ext (mrg_vec ha hb) (mrg_vec hb ha) fun k => by rw [cnt_mrg ha hb, cnt_mrg hb ha]; omega
theorem mrg_assoc {a b c : List (Nat × Nat)} (ha : Vec a) (hb : Vec b) (hc : Vec c) : mrg (mrg a b) c = mrg a (mrg b c) :=
  ext (mrg_vec (mrg_vec ha hb) hc) (mrg_vec ha (mrg_vec hb hc)) fun k => by rw [cnt_mrg (mrg_vec ha hb) hc, cnt_mrg ha (mrg_vec hb hc), cnt_mrg ha hb, cnt_mrg hb hc]; omega
theorem mrg_self {a : List (Nat × Nat)} (ha : Vec a) : mrg a a = a := (mrg_eq_iff ha ha).2 fun _ => Nat.le_refl _
theorem bel_antisymm {a b : List (Nat × Nat)} (ha : Vec a) (hb : Vec b) (h : Bel a b) (h2 : Bel b a) : a = b := ext ha hb fun k => Nat.le_antisymm (h k) (h2 k)
theorem bel_mrg {a b c : List (Nat × Nat)} (ha : Vec a) (hb : Vec b) : Bel (mrg a b) c ↔ Bel a c ∧ Bel b c := by
  constructor
  · intro h
    exact ⟨fun k => by have := h k; rw [cnt_mrg ha hb] at this; omega, fun k => by have := h k; rw [cnt_mrg ha hb] at this; omega⟩
  · rintro ⟨h1, h2⟩ k
    rw [cnt_mrg ha hb]; have := h1 k; have := h2 k; omega
/-- is the i-th dot as it must be -/
def good (l : List (Nat × Nat)) (i : Nat) (h : i < l.length) : Prop := 1 ≤ l[i].2 ∧ l[i].2 ≤ 1099511627776 ∧ (0 < i → l[i - 1].1 < l[i].1)
theorem up_of {l : List (Nat × Nat)} (h : ∀ i (h : i + 1 < l.length), l[i].1 < l[i + 1].1) : Up l := by
  refine List.pairwise_iff_getElem.2 fun i j hi hj hij => ?_
  obtain ⟨k, rfl⟩ : ∃ k, j = i + 1 + k := ⟨j - (i + 1), by omega⟩
  clear hij
  induction k with
  | zero => exact h i hj
  | succ k ih => exact Nat.lt_trans (ih (by omega)) (h (i + 1 + k) hj)
theorem ok_iff {l : List (Nat × Nat)} : Ok l ↔ l.length ≤ 64 ∧ ∀ i (h : i < l.length), good l i h := by
  constructor
  · intro h
    refine ⟨h.len, fun i hi => ⟨(h.pos _ (List.getElem_mem hi)).1, (h.pos _ (List.getElem_mem hi)).2, fun h0 => ?_⟩⟩
    exact List.pairwise_iff_getElem.1 h.up (i - 1) i (by omega) hi (by omega)
  · rintro ⟨h1, h2⟩
    refine ⟨⟨up_of fun i hi => ?_, fun d hd => ?_⟩, h1⟩
    · exact (h2 (i + 1) hi).2.2 (by omega)
    · obtain ⟨i, hi, rfl⟩ := List.getElem_of_mem hd
      exact ⟨(h2 i hi).1, (h2 i hi).2.1⟩
open Classical in
noncomputable def okB (l : List (Nat × Nat)) : Bool := decide (Ok l)
open Classical in
theorem okB_true {l : List (Nat × Nat)} : okB l = true ↔ Ok l := by unfold okB; exact decide_eq_true_iff
open Classical in
theorem okB_false {l : List (Nat × Nat)} : okB l = false ↔ ¬ Ok l := by unfold okB; exact decide_eq_false_iff_not
theorem not_ok_at {l : List (Nat × Nat)} {i : Nat} (h : i < l.length) (hg : ¬ good l i h) : okB l = false := okB_false.2 fun ho => hg ((ok_iff.1 ho).2 i h)
/-- the count by Count -/
noncomputable def cntV (l : List (Nat × Nat)) (a : Nat) : Nat := if okB l then cnt l a else 0
theorem cnt_at {l : List (Nat × Nat)} {i : Nat} (hi : i < l.length) (hn : ∀ j (h : j < l.length), j < i → l[j].1 ≠ l[i].1) : cnt l l[i].1 = l[i].2 := by
  induction l generalizing i with
  | nil => simp at hi
  | cons x l ih =>
    cases i with
    | zero => simp [cnt]
    | succ i =>
      simp only [cnt, List.getElem_cons_succ]
      have h0 := hn 0 (by simp) (by omega)
      simp only [List.getElem_cons_zero, List.getElem_cons_succ] at h0
      rw [if_neg h0]
      exact ih (by simpa using hi) fun j hj hji => by have := hn (j + 1) (by simpa using hj) (by omega); simpa using this
theorem cnt_none {l : List (Nat × Nat)} {a : Nat} (hn : ∀ j (h : j < l.length), l[j].1 ≠ a) : cnt l a = 0 :=
  cnt_zero_of fun d hd => by obtain ⟨i, hi, rfl⟩ := List.getElem_of_mem hd; exact hn i hi
/-- how many ahead have a lesser actor -/
def plc : List (Nat × Nat) → Nat → Nat
  | [], _ => 0
  | x :: l, a => if x.1 < a then plc l a + 1 else 0
theorem plc_le (l : List (Nat × Nat)) (a : Nat) : plc l a ≤ l.length := by
  induction l with
  | nil => simp [plc]
  | cons x l ih => simp only [plc]; split <;> simp <;> omega
theorem plc_lt (l : List (Nat × Nat)) (a j : Nat) (h : j < plc l a) (hj : j < l.length) : l[j].1 < a := by
  induction l generalizing j with
  | nil => simp at hj
  | cons x l ih =>
    simp only [plc] at h
    split at h
    · rename_i hx
      cases j with
      | zero => exact hx
      | succ j => exact ih j (by omega) (by simpa using hj)
    · omega
theorem plc_ge (l : List (Nat × Nat)) (a : Nat) (h : plc l a < l.length) : a ≤ l[plc l a].1 := by
  induction l with
  | nil => simp at h
  | cons x l ih =>
    by_cases hx : x.1 < a
    · have e : plc (x :: l) a = plc l a + 1 := by simp [plc, hx]
      have h' : plc l a < l.length := by rw [e] at h; simpa using h
      have := ih h'
      simp only [e, List.getElem_cons_succ]; exact this
    · have e : plc (x :: l) a = 0 := by simp [plc, hx]
      simp only [e, List.getElem_cons_zero]; omega
theorem plc_eq {l : List (Nat × Nat)} {a k : Nat} (hk : k ≤ l.length) (h1 : ∀ j (h : j < l.length), j < k → l[j].1 < a) (h2 : ∀ h : k < l.length, a ≤ l[k].1) : plc l a = k := by
  rcases Nat.lt_trichotomy (plc l a) k with h | h | h
  · have := plc_ge l a (by omega); have := h1 (plc l a) (by omega) h; omega
  · exact h
  · have hl := plc_le l a
    have := plc_lt l a k h (by omega); have := h2 (by omega); omega
/-- is the actor there -/
def has (l : List (Nat × Nat)) (a : Nat) : Prop := ∃ d ∈ l, d.1 = a
/-- one dot more -/
def put (l : List (Nat × Nat)) (p : Nat) (d : Nat × Nat) : List (Nat × Nat) := l.take p ++ d :: l.drop p
open Classical in
noncomputable def ins (l : List (Nat × Nat)) (d : Nat × Nat) : List (Nat × Nat) := if ∃ h : plc l d.1 < l.length, l[plc l d.1].1 = d.1 then l else put l (plc l d.1) d
theorem ins_old {l : List (Nat × Nat)} {d : Nat × Nat} (h : plc l d.1 < l.length) (he : l[plc l d.1].1 = d.1) : ins l d = l := if_pos ⟨h, he⟩
theorem ins_new {l : List (Nat × Nat)} {d : Nat × Nat} (he : ∀ h : plc l d.1 < l.length, l[plc l d.1].1 ≠ d.1) : ins l d = put l (plc l d.1) d := if_neg fun ⟨h, e⟩ => he h e
theorem put_len {l : List (Nat × Nat)} {p : Nat} {d : Nat × Nat} (hp : p ≤ l.length) : (put l p d).length = l.length + 1 := by simp [put]; omega
theorem ins_len (l : List (Nat × Nat)) (d : Nat × Nat) : (ins l d).length ≤ l.length + 1 := by
  unfold ins; split
  · omega
  · rw [put_len (plc_le _ _)]; omega
theorem mem_put {l : List (Nat × Nat)} {p : Nat} {d x : Nat × Nat} : x ∈ put l p d ↔ x = d ∨ x ∈ l := by
  unfold put
  rw [List.mem_append, List.mem_cons]
  constructor
  · rintro (h | h | h)
    · exact .inr (List.mem_of_mem_take h)
    · exact .inl h
    · exact .inr (List.mem_of_mem_drop h)
  · rintro (h | h)
    · exact .inr (.inl h)
    · rw [← List.take_append_drop p l, List.mem_append] at h
      rcases h with h | h
      · exact .inl h
      · exact .inr (.inr h)
theorem has_ins (l : List (Nat × Nat)) (d : Nat × Nat) (a : Nat) : has (ins l d) a ↔ d.1 = a ∨ has l a := by
  unfold ins
  split
  · rename_i h
    obtain ⟨h, e⟩ := h
    constructor
    · exact .inr
    · rintro (rfl | h')
      · exact ⟨_, List.getElem_mem h, e⟩
      · exact h'
  · constructor
    · rintro ⟨x, hx, rfl⟩
      rcases mem_put.1 hx with rfl | hx
      · exact .inl rfl
      · exact .inr ⟨x, hx, rfl⟩
    · rintro (rfl | ⟨x, hx, rfl⟩)
      · exact ⟨d, mem_put.2 (.inl rfl), rfl⟩
      · exact ⟨x, mem_put.2 (.inr hx), rfl⟩
theorem ins_vec {l : List (Nat × Nat)} {d : Nat × Nat} (hl : Vec l) (hd : 1 ≤ d.2 ∧ d.2 ≤ 1099511627776) : Vec (ins l d) := by
  by_cases hx : ∃ h : plc l d.1 < l.length, l[plc l d.1].1 = d.1
  · obtain ⟨h, e⟩ := hx; rw [ins_old h e]; exact hl
  · have hx' : ∀ h : plc l d.1 < l.length, l[plc l d.1].1 ≠ d.1 := fun h e => hx ⟨h, e⟩
    rw [ins_new hx']
    refine ⟨?_, fun x hx => ?_⟩
    · unfold put Up
      have h1 : ∀ x ∈ l.take (plc l d.1), x.1 < d.1 := fun x hx => by
        obtain ⟨i, hi, rfl⟩ := List.getElem_of_mem hx
        rw [List.length_take] at hi
        rw [List.getElem_take]
        exact plc_lt l d.1 i (by omega) (by omega)
      have h2 : ∀ x ∈ l.drop (plc l d.1), d.1 < x.1 := fun x hx => by
        obtain ⟨i, hi, rfl⟩ := List.getElem_of_mem hx
        rw [List.length_drop] at hi
        rw [List.getElem_drop]
        have hp : plc l d.1 < l.length := by omega
        have hg := plc_ge l d.1 hp
        have hne := hx' hp
        cases i with
        | zero => simp only [Nat.add_zero]; omega
        | succ i =>
          have := List.pairwise_iff_getElem.1 hl.up (plc l d.1) (plc l d.1 + (i + 1)) hp (by omega) (by omega)
          omega
      refine List.pairwise_append.2 ⟨hl.up.sublist (List.take_sublist _ _), List.pairwise_cons.2 ⟨h2, hl.up.sublist (List.drop_sublist _ _)⟩, fun x hx y hy => ?_⟩
      rcases List.mem_cons.1 hy with rfl | hy
      · exact h1 x hx
      · exact Nat.lt_trans (h1 x hx) (h2 y hy)
    · rcases mem_put.1 hx with rfl | hx
      · exact hd
      · exact hl.pos x hx
def dn (d : Nat × Nat) : Nat × Nat := (d.1, d.2 % 1099511627776 + 1)
/-- a vector out of any dots -/
noncomputable def mkv (most : Nat) : List (Nat × Nat) → List (Nat × Nat) → List (Nat × Nat)
  | v, [] => v
  | v, d :: l => if v.length < most then mkv most (ins v (dn d)) l else v
theorem mkv_nil (most : Nat) (v : List (Nat × Nat)) : mkv most v [] = v := rfl
theorem mkv_full {most : Nat} {v l : List (Nat × Nat)} (h : ¬ v.length < most) : mkv most v l = v := by cases l <;> simp [mkv, h]
theorem mkv_cons {most : Nat} {v l : List (Nat × Nat)} {d : Nat × Nat} (h : v.length < most) : mkv most v (d :: l) = mkv most (ins v (dn d)) l := by simp [mkv, h]
theorem mkv_vec (most : Nat) {v l : List (Nat × Nat)} (h : Vec v) (hl : v.length ≤ most) : Vec (mkv most v l) ∧ (mkv most v l).length ≤ most := by
  induction l generalizing v with
  | nil => exact ⟨h, hl⟩
  | cons d l ih =>
    by_cases hv : v.length < most
    · rw [mkv_cons hv]
      exact ih (ins_vec h (by simp only [dn]; omega)) (by have := ins_len v (dn d); omega)
    · rw [mkv_full hv]; exact ⟨h, hl⟩
theorem vec_nil : Vec [] := ⟨List.Pairwise.nil, fun d hd => by cases hd⟩
theorem mkv_ok {most : Nat} (h : most ≤ 64) (l : List (Nat × Nat)) : Ok (mkv most [] l) := by
  have := mkv_vec most (l := l) vec_nil (Nat.zero_le _)
  exact ⟨this.1, by omega⟩
theorem has_mkv {most : Nat} {v l : List (Nat × Nat)} (h : v.length + l.length ≤ most) (a : Nat) : has (mkv most v l) a ↔ has v a ∨ has l a := by
  induction l generalizing v with
  | nil => rw [mkv_nil]; simp [has]
  | cons d l ih =>
    rw [List.length_cons] at h
    rw [mkv_cons (by omega), ih (by have := ins_len v (dn d); omega), has_ins]
    simp only [dn, has, List.mem_cons, exists_eq_or_imp]
    constructor
    · rintro ((h | h) | h)
      · exact .inr (.inl h)
      · exact .inl h
      · exact .inr (.inr h)
    · rintro (h | h | h)
      · exact .inl (.inr h)
      · exact .inl (.inl h)
      · exact .inr h
theorem has_iff {l : List (Nat × Nat)} (h : Vec l) (a : Nat) : has l a ↔ cnt l a ≠ 0 := by
  constructor
  · rintro ⟨d, hd, rfl⟩
    rw [cnt_mem h.up hd]; have := (h.pos d hd).1; omega
  · intro h0
    obtain ⟨d, h1, h2, _⟩ := cnt_pos h0
    exact ⟨d, h1, h2⟩
theorem has_append (l m : List (Nat × Nat)) (a : Nat) : has (l ++ m) a ↔ has l a ∨ has m a := by
  simp only [has, List.mem_append]
  constructor
  · rintro ⟨d, h | h, e⟩
    · exact .inl ⟨d, h, e⟩
    · exact .inr ⟨d, h, e⟩
  · rintro (⟨d, h, e⟩ | ⟨d, h, e⟩)
    · exact ⟨d, .inl h, e⟩
    · exact ⟨d, .inr h, e⟩
/-- the actors alone -/
def ones (l : List (Nat × Nat)) : List (Nat × Nat) := l.map fun d => (d.1, 1)
theorem ones_vec {l : List (Nat × Nat)} (h : Up l) : Vec (ones l) :=
  ⟨List.pairwise_map.2 h, fun d hd => by obtain ⟨x, _, rfl⟩ := List.mem_map.1 hd; simp⟩
theorem has_ones (l : List (Nat × Nat)) (a : Nat) : has (ones l) a ↔ has l a := by
  simp only [has, ones, List.mem_map]
  constructor
  · rintro ⟨d, ⟨x, hx, rfl⟩, rfl⟩; exact ⟨x, hx, rfl⟩
  · rintro ⟨x, hx, rfl⟩; exact ⟨_, ⟨x, hx, rfl⟩, rfl⟩
theorem cnt_ones (l : List (Nat × Nat)) (a : Nat) : cnt (ones l) a ≤ 1 := by
  induction l with
  | nil => simp [ones, cnt]
  | cons d l ih => simp only [ones, List.map_cons, cnt] at ih ⊢; split <;> omega
/-- as many dots, if the actors are the same -/
theorem len_eq {l m : List (Nat × Nat)} (hl : Up l) (hm : Up m) (h : ∀ a, has l a ↔ has m a) : l.length = m.length := by
  have e : ones l = ones m := ext (ones_vec hl) (ones_vec hm) fun a => by
    have h1 := has_iff (ones_vec hl) a
    have h2 := has_iff (ones_vec hm) a
    rw [has_ones] at h1 h2
    have := cnt_ones l a
    have := cnt_ones m a
    have hh := h a
    rw [h1, h2] at hh
    omega
  have := congrArg List.length e
  simpa [ones] using this
theorem has_mrg {a b : List (Nat × Nat)} (ha : Vec a) (hb : Vec b) (k : Nat) : has (mrg a b) k ↔ has a k ∨ has b k := by
  rw [has_iff (mrg_vec ha hb), has_iff ha, has_iff hb, cnt_mrg ha hb]; omega
/-- as many as the max has -/
theorem union_len {a b : List (Nat × Nat)} (ha : Vec a) (hb : Vec b) {most : Nat} (h : a.length + b.length ≤ most) : (mkv most [] (a ++ b)).length = (mrg a b).length := by
  refine len_eq (mkv_vec most vec_nil (Nat.zero_le _)).1.up (mrg_vec ha hb).up fun k => ?_
  rw [has_mkv (by simpa using h), has_append, has_mrg ha hb]
  simp [has]
end Go.Proofs.Ytkcbljmjhlnjpaa.V
namespace Go.Proofs.Ytkcbljmjhlnjpaa
open Go.RowKit

def dcs (d : Nat × Nat) : List Value := [.int .u32 (d.1 : Int), .int .u64 (d.2 : Int)]
def flatD (l : List (Nat × Nat)) : List Value := l.flatMap dcs
theorem flatD_len (l : List (Nat × Nat)) : (flatD l).length = l.length * 2 := by
  induction l with
  | nil => rfl
  | cons c l ih => simp [flatD, dcs] at ih ⊢; omega
theorem flatD_app (a b : List (Nat × Nat)) : flatD (a ++ b) = flatD a ++ flatD b := by simp [flatD]
theorem flatD_one (l : List (Nat × Nat)) : ∀ v ∈ flatD l, v.oneCell' = true := by
  intro v hv
  obtain ⟨d, _, h⟩ := List.mem_flatMap.1 hv
  simp only [dcs, List.mem_cons, List.not_mem_nil, or_false] at h
  rcases h with rfl | rfl <;> rfl
theorem flatD_get : ∀ (l : List (Nat × Nat)) (i : Nat) (hi : i < l.length), (flatD l)[i * 2]? = some (.int .u32 (l[i].1 : Int)) ∧ (flatD l)[i * 2 + 1]? = some (.int .u64 (l[i].2 : Int))
  | [], _, hi => by simp at hi
  | c :: l, 0, _ => by simp [flatD, dcs]
  | c :: l, i + 1, hi => by
    have := flatD_get l i (by simpa using hi)
    have e : flatD (c :: l) = .int .u32 (c.1 : Int) :: .int .u64 (c.2 : Int) :: flatD l := rfl
    rw [e, show (i + 1) * 2 = i * 2 + 1 + 1 by omega, show i * 2 + 1 + 1 + 1 = i * 2 + 1 + 1 + 1 from rfl]
    simpa using this
/-- cells that lie somewhere -/
def Lies (w : World) (ao : Option Addr) (xs : List Value) : Prop := 0 < xs.length → ∃ g o, ao = some ⟨g, o, none⟩ ∧ w.rangeAt g o xs
theorem Lies.below {w w' : World} {ao : Option Addr} {xs : List Value} (h : Lies w ao xs) (hb : Below w.heap.size w w') : Lies w' ao xs := fun h0 => by
  obtain ⟨g, o, h1, h2⟩ := h h0
  exact ⟨g, o, h1, fun j v hv => (hb.cell (p := ⟨g, o + j, none⟩) (World.block_lt_of_cell? w _ (h2 j v hv))).trans (h2 j v hv)⟩
theorem Lies.nil (w : World) (ao : Option Addr) : Lies w ao [] := fun h => absurd h (by simp)
theorem Lies.drewN {w : World} {ao : Option Addr} {xs : List Value} (h : Lies w ao xs) (n : Nat) : Lies (w.drewN n) ao xs := h
theorem Lies.pre {w : World} {ao : Option Addr} {xs ys : List Value} (h : Lies w ao (xs ++ ys)) : Lies w ao xs := fun h0 => by
  obtain ⟨g, o, e, hr⟩ := h (by rw [List.length_append]; omega)
  exact ⟨g, o, e, fun j v hv => hr j v (by rw [List.getElem?_append_left (List.getElem?_eq_some_iff.1 hv).1]; exact hv)⟩
theorem box_below {W u : World} {N : Nat} {o : Obj} (h : W.heap[N]? = some o) (hb : Below W.heap.size W u) : u.heap[N]? = some o := (hb.block N (Array.getElem?_eq_some_iff.1 h).1).trans h
theorem sizeN {t n : Nat} (h : (Try.prog.info? t).map (·.size) = some n) (W : World) : (Go.sizeOf t).run Try.prog W = .ok n W := by
  cases hq : Try.prog.info? t with
  | none => simp [hq] at h
  | some i => simp only [hq, Option.map_some, Option.some.injEq] at h; simp [Go.sizeOf, typeInfo, hq, h]
theorem ixD (g o n c i : Nat) (hi : i < n) (W : World) : (Instr.indexAt 28 (.slice (some ⟨g, o, none⟩) n c) (.int .i64 (i : Int))).run Try.prog W = .ok (.pointer (some ⟨g, o + i * 2, none⟩)) W := by
  have he : Try.prog.elem 28 = 53 := by kernel_rfl
  rw [run_indexAt_slice W 28 _ _ _ _ _ (by rw [he]; kernel_rfl), if_pos ⟨by omega, by omega⟩, he, sizeN (n := 2) (by kernel_rfl)]
  simp only [Result.andThen_ok, Int.toNat_natCast, Addr.add_mid]
/-- the i-th dot in memory -/
theorem Lies.dt {w : World} {ao : Option Addr} {l : List (Nat × Nat)} (h : Lies w ao (flatD l)) {i : Nat} (hi : i < l.length) : ∃ g o, ao = some ⟨g, o, none⟩ ∧ w.cell? ⟨g, o + i * 2, none⟩ = some (.int .u32 (l[i].1 : Int)) ∧ w.cell? ⟨g, o + i * 2 + 1, none⟩ = some (.int .u64 (l[i].2 : Int)) := by
  obtain ⟨g, o, h1, h2⟩ := h (by rw [flatD_len]; omega)
  have := flatD_get l i hi
  exact ⟨g, o, h1, h2 _ _ this.1, h2 _ _ this.2⟩
/-- numbers that dots may have -/
def Fits (l : List (Nat × Nat)) : Prop := ∀ d ∈ l, d.1 < 4294967296 ∧ d.2 < 18446744073709551616
/-- dots in memory -/
structure DAt (w : World) (l : List (Nat × Nat)) (ao : Option Addr) : Prop where
  lies : Lies w ao (flatD l)
  fits : Fits l
  len : l.length ≤ 140737488355328
theorem DAt.below {w w' : World} {l : List (Nat × Nat)} {ao : Option Addr} (h : DAt w l ao) (hb : Below w.heap.size w w') : DAt w' l ao := ⟨h.lies.below hb, h.fits, h.len⟩
end Go.Proofs.Ytkcbljmjhlnjpaa
namespace Go.Proofs.Ytkcbljmjhlnjpaa
open Go.RowKit Go.Lib
theorem zero_run {P : Program} {t : TypeId} {cells : Array Value} (hz : ((P.info? t).bind (·.zero)).map (·.cells) = some cells) (w : World) : ∃ z, (zeroValue t).run P w = .ok z w ∧ z.cells = cells := by
  cases hq : P.info? t with
  | none => simp [hq] at hz
  | some i =>
    cases hz' : i.zero with
    | none => simp [hq, hz'] at hz
    | some z => exact ⟨z, by simp [zeroValue, typeInfo, hq, hz'], by simpa [hq, hz'] using hz⟩
/-- a new variable -/
theorem wpList_alloc_row {P : Program} {ops : Array Oper} {rest : List Oper} {o : Oper} {a : Act} {w : World} {Q : Exit → Act → World → Prop} (hg : o.guard = none) (t : TypeId) (ho : o.op = .alloc t) (d : Option Tmp) (hd : o.dst = d)
    (N : Nat) (hN : w.heap.size = N) (cells : Array Value) (hz : ((P.info? t).bind (·.zero)).map (·.cells) = some cells)
    (h : ∀ w', Hid (w'.heap[N]? = some (.cells cells t (0, 0))) → Hid (Below N w w') → Hid (w'.heap.size = N + 1) → wpList P ops Q rest (a.put d (.pointer (some ⟨N, 0, none⟩))) w') : wpList P ops Q (o :: rest) a w := by
  subst hd hN
  obtain ⟨z, h1, h2⟩ := zero_run hz w
  refine wpList_plain hg fun K hK => ?_
  unfold Oper.wp execOp
  simp only [ho, Sem.run_bind, Instr.alloc, h1, newVar, newRow, run_newObj_alloc, Sem.run_pure, Result.andThen_ok, h2]
  exact hK _ _ (h _ (heap_alloc_new _ _) ((Below.refl _ _).alloc (Nat.le_refl _) _) (hide (by simp)))
theorem heapRow_same {w : World} {g : Nat} {cs : Array Value} {t : TypeId} {fr : Nat × Nat} (h : w.heap[g]? = some (.cells cs t fr)) (cs' : Array Value) : (w.setRow g cs').heap[g]? = some (.cells cs' t fr) := by
  simp [World.setRow, Array.getElem?_modify, h]
theorem heapRow_other (w : World) (g k : Nat) (cs' : Array Value) (h : k ≠ g) : (w.setRow g cs').heap[k]? = w.heap[k]? := by
  simp only [World.setRow, Array.getElem?_modify]
  rw [if_neg (by omega)]
theorem belowRow {B : Nat} {a w : World} (h : Below B a w) {g : Nat} (hg : B ≤ g) (cs' : Array Value) : Below B a (w.setRow g cs') :=
  ⟨h.os, h.tape, h.output, by simpa [World.setRow] using h.size, fun k hk => (heapRow_other w g k cs' (by omega)).trans (h.block k hk)⟩
theorem wpList_store_hid {P : Program} {ops : Array Oper} {rest : List Oper} {o : Oper} {a : Act} {w : World} {Q : Exit → Act → World → Prop} (hgd : o.guard = none) (ty : TypeId) (x y : Operand) (ho : o.op = .store ty x y)
    (g : Nat) (cells : Array Value) (hx : a.eval x = .pointer (some ⟨g, 0, none⟩)) (hy : a.eval y = .agg cells)
    (t : TypeId) (old : Array Value) (hg : w.heap[g]? = some (.cells old t (0, 0))) (hi : (P.info? ty).map (·.size) = some cells.size)
    (hold : old.size = cells.size) (h1 : cells.all (·.oneCell') = true)
    (h : ∀ w', Hid (w'.heap[g]? = some (.cells cells t (0, 0))) → Hid (w' = w.setRow g cells) → wpList P ops Q rest (a.put o.dst undef) w') : wpList P ops Q (o :: rest) a w :=
  wpList_store_row hgd ty x y ho g cells hx hy t old hg hi hold h1 (h _ (heapRow_same hg _) rfl)
theorem box2 {W : World} {N : Nat} {c0 c1 : Value} {t : TypeId} (h : W.heap[N]? = some (.cells #[c0, c1] t (0, 0))) : W.cell? ⟨N, 0, none⟩ = some c0 ∧ W.cell? ⟨N, 1, none⟩ = some c1 := by
  refine ⟨?_, ?_⟩ <;> simp [World.cell?, h]
theorem zeroDot : ((Try.prog.info? 53).bind (·.zero)).map (·.cells) = some #[.int .u32 0, .int .u64 0] := by kernel_rfl
theorem dotInfo : (Try.prog.info? 53).map (·.size) = some 2 := by kernel_rfl
theorem dot_one (a b : Int) : (#[.int .u32 a, .int .u64 b] : Array Value).all (·.oneCell') = true := by
  rw [Array.all_eq_true']
  intro v hv
  simp only [List.mem_toArray, List.mem_cons, List.not_mem_nil, or_false] at hv
  rcases hv with rfl | rfl <;> rfl
theorem dot_parts : ∃ i, Try.prog.info? 53 = some i ∧ i.zero = some (.agg #[.int .u32 0, .int .u64 0]) ∧ i.size = 2 ∧ i.bytes = 16 := by
  have h : (Try.prog.info? 53).map (fun i => (i.zero, i.size, i.bytes)) = some (some (.agg #[.int .u32 0, .int .u64 0]), 2, 16) := by kernel_rfl
  obtain ⟨i, hi, h2⟩ := Option.map_eq_some_iff.1 h
  simp only [Prod.mk.injEq] at h2
  exact ⟨i, hi, h2⟩
theorem undD : Try.prog.underlying 28 = some (.slice 53) := by kernel_rfl
theorem dotUnd : Try.prog.underlying 53 = some (.struct (match Try.prog.underlying 53 with | some (.struct fs) => fs | _ => #[])) := by kernel_rfl
theorem results_cell_tmp {P : Program} {fn : Func} {p q : Tmp} {ty : TypeId} (h : fn.results = #[.cell p ty, .tmp q]) (tmps : Array Value) (w : World) (g : Nat) (t : TypeId) (cs : Array Value) (fr : Nat × Nat) (d : TypeDesc)
    (hp : tmps.getD p undef = .pointer (some ⟨g, 0, none⟩)) (hg : w.heap[g]? = some (.cells cs t fr))
    (hu : P.underlying ty = some d) (hd : (match d with | .struct _ | .array _ _ => true | _ => false) = true) (hi : (P.info? ty).map (·.size) = some cs.size) :
    (results fn tmps).run P w = .ok (.tuple #[.agg cs, tmps.getD q undef]) w := by
  have hp' : tmps[p]?.getD undef = .pointer (some ⟨g, 0, none⟩) := by simpa using hp
  simp [results, h, hp', asAddr, run_loadVar_row w g t ty cs fr d hg hu hd hi]
theorem results_cell {P : Program} {fn : Func} {p : Tmp} {ty : TypeId} (h : fn.results = #[.cell p ty]) (tmps : Array Value) (w : World) (g : Nat) (t : TypeId) (cs : Array Value) (fr : Nat × Nat) (d : TypeDesc)
    (hp : tmps.getD p undef = .pointer (some ⟨g, 0, none⟩)) (hg : w.heap[g]? = some (.cells cs t fr))
    (hu : P.underlying ty = some d) (hd : (match d with | .struct _ | .array _ _ => true | _ => false) = true) (hi : (P.info? ty).map (·.size) = some cs.size) :
    (results fn tmps).run P w = .ok (.agg cs) w := by
  have hp' : tmps[p]?.getD undef = .pointer (some ⟨g, 0, none⟩) := by simpa using hp
  simp [results, h, hp', asAddr, run_loadVar_row w g t ty cs fr d hg hu hd hi]
theorem belowDrew {B : Nat} {a w : World} (h : Below B a w) : Below B a w.drew := ⟨h.os, h.tape, h.output, h.size, h.block⟩
theorem wpList_alloc_dot {ops : Array Oper} {rest : List Oper} {o : Oper} {a : Act} {w : World} {Q : Exit → Act → World → Prop} (hg : o.guard = none) (ho : o.op = .alloc 53) (d : Option Tmp) (hd : o.dst = d) (N : Nat) (hN : N = w.heap.size)
    (h : ∀ w', Hid (w'.heap[N]? = some (.cells #[.int .u32 0, .int .u64 0] 53 (0, 0))) → Hid (Below N w w') → Hid (w'.heap.size = N + 1) → wpList Try.prog ops Q rest (a.put d (.pointer (some ⟨N, 0, none⟩))) w') : wpList Try.prog ops Q (o :: rest) a w :=
  wpList_alloc_row hg _ ho d hd N hN.symm _ zeroDot h
theorem wpList_store_dot {ops : Array Oper} {rest : List Oper} {o : Oper} {a : Act} {w : World} {Q : Exit → Act → World → Prop} (hgd : o.guard = none) (x y : Operand) (ho : o.op = .store 53 x y) (g : Nat) (q p : Int) (hx : a.eval x = .pointer (some ⟨g, 0, none⟩)) (hy : a.eval y = .agg #[.int .u32 q, .int .u64 p])
    {q0 p0 : Value} (hg : w.heap[g]? = some (.cells #[q0, p0] 53 (0, 0)))
    (h : ∀ w', Hid (w'.heap[g]? = some (.cells #[.int .u32 q, .int .u64 p] 53 (0, 0))) → Hid (w' = w.setRow g #[.int .u32 q, .int .u64 p]) → wpList Try.prog ops Q rest (a.put o.dst undef) w') : wpList Try.prog ops Q (o :: rest) a w :=
  wpList_store_hid hgd _ x y ho g _ hx hy _ _ hg dotInfo rfl (dot_one _ _) h
theorem wpList_box_dot {ops : Array Oper} {rest : List Oper} {o : Oper} {a : Act} {w : World} {Q : Exit → Act → World → Prop} (hg : o.guard = none) (x : Operand) (ho : o.op = .box 53 x) (d : Option Tmp) (hd : o.dst = d) (N : Nat) (hN : N = w.heap.size) (q p : Int) (hx : a.eval x = .agg #[.int .u32 q, .int .u64 p])
    (h : ∀ w', Hid (w'.heap[N]? = some (.cells #[.int .u32 q, .int .u64 p] 53 (0, 0))) → Hid (Below N w w') → Hid (w'.heap.size = N + 1) → wpList Try.prog ops Q rest (a.put d (.pointer (some ⟨N, 0, none⟩))) w') : wpList Try.prog ops Q (o :: rest) a w :=
  wpList_box_row hg _ x ho d hd N hN.symm _ (by rw [hx]; rfl) h
end Go.Proofs.Ytkcbljmjhlnjpaa

namespace Go.Proofs.Ytkcbljmjhlnjpaa
open Go.RowKit

set_option maxRecDepth 100000 in
set_option maxHeartbeats 2000000 in
theorem vValid (l : List (Nat × Nat)) (ao : Option Addr) (c : Nat) (u : World) (h : DAt u l ao) : Calls Try.prog 122 #[.slice ao l.length c] u fun e u' => e = .returned (.bool (V.okB l)) ∧ Below u.heap.size u u' := by
  have hl0 := h.len
  obtain ⟨N, hN⟩ : ∃ N, N = u.heap.size := ⟨_, rfl⟩
  have HN := hide hN
  rw [← hN]
  clear hN
  by_cases h64 : l.length ≤ 64
  · have HQ := hide h.lies
    have HF := hide h.fits
    have HL := hide h64
    clear h
    have HE : Hid (∀ i (hi : i < l.length), ¬ V.good l i hi → V.okB l = false) := fun i hi hg => V.not_ok_at hi hg
    have HT : Hid ((∀ i (hi : i < l.length), V.good l i hi) → V.okB l = true) := fun hg => V.okB_true.2 (V.ok_iff.2 ⟨unhide HL, hg⟩)
    generalize V.okB l = ok at *
    obtain ⟨n, hn⟩ : ∃ n, n = l.length := ⟨_, rfl⟩
    have HLN := hide hn
    rw [← hn] at hl0 h64 ⊢
    have h64i : (n : Int) ≤ 64 := by omega
    have h64j : ¬ (64 : Int) < (n : Int) := by omega
    clear hn hl0
    go_enter Try.func122, Try.ntmps122
    go_wp2
    go_loopw [10] (fun i wr => ∃ k : Nat, k ≤ n ∧ i = .int .i64 k ∧ Hid (Below N u wr ∧ ∀ j (hj : j < l.length), j < k → V.good l j hj)) (fun i _ => n - (intOf i).toNat)
    case atStart => exact ⟨0, Nat.zero_le _, rfl, by rw [unhide HN]; exact Below.refl _ _, fun j _ hj => absurd hj (Nat.not_lt_zero _)⟩
    case round =>
      obtain ⟨k, hk, rfl, HI⟩ := hrel
      by_cases hlt : k < n
      · have hki : (k : Int) < (n : Int) := by omega
        have hkl : k < l.length := by rw [← unhide HLN]; exact hlt
        have HLB := hide ((unhide HQ).below (by rw [← unhide HN]; exact (unhide HI).1))
        obtain ⟨g, o, hao, c1, c2⟩ := (unhide HLB).dt hkl
        subst hao
        have hix := ixD g o n c k hlt
        have hf := unhide HF _ (List.getElem_mem hkl)
        obtain ⟨M, hM⟩ : ∃ M, M = wr.heap.size := ⟨_, rfl⟩
        have HM := hide hM
        have HMN : Hid (N ≤ M) := by rw [hM, unhide HN]; exact (unhide HI).1.size
        clear hM
        have HG : Hid (V.good l k hkl ↔ 1 ≤ l[k].2 ∧ l[k].2 ≤ 1099511627776 ∧ (0 < k → l[k - 1].1 < l[k].1)) := Iff.rfl
        have HK : Hid (∀ W : World, Below M wr W → Below N u W) := fun W hW => (unhide HI).1.trans (hW.mono (unhide HMN))
        have HR : Hid (V.good l k hkl → ∀ j (hj : j < l.length), j < k + 1 → V.good l j hj) := fun hg j hj hjk => by
          rcases Nat.lt_succ_iff_lt_or_eq.1 hjk with h | rfl
          · exact (unhide HI).2 j hj h
          · exact hg
        have HE1 := hide (unhide HE k hkl)
        generalize hq : l[k] = q at *
        obtain ⟨qa, qc⟩ := q
        have c1 : wr.cell? ⟨g, o + k * 2, none⟩ = some (.int .u32 (qa : Int)) := c1
        have c2 : wr.cell? ⟨g, o + k * 2 + 1, none⟩ = some (.int .u64 (qc : Int)) := c2
        have hf1 : (qa : Int) < 4294967296 := by have := hf.1; simp only at this; omega
        have hf2 : (qc : Int) < 18446744073709551616 := by have := hf.2; simp only at this; omega
        have HF1 := hide hf1
        have HF2 := hide hf2
        have HG2 : Hid (V.good l k hkl ↔ 1 ≤ qc ∧ qc ≤ 1099511627776 ∧ (0 < k → l[k - 1].1 < qa)) := HG
        clear hf hq HI hf1 hf2 HG HE
        generalize o + k * 2 = oo at *
        by_cases hcn : 1 ≤ qc ∧ qc ≤ 1099511627776
        · obtain ⟨hcn1, hcn2⟩ := hcn
          have hc3 : ¬ (qc : Int) < 1 := by omega
          have hc4 : ¬ (1099511627776 : Int) < (qc : Int) := by omega
          have HC1 := hide hcn1
          have HC2 := hide hcn2
          clear hcn1 hcn2
          by_cases hk0 : k = 0
          · have HK0 := hide hk0
            have HGk : Hid (V.good l k hkl) := (unhide HG2).2 ⟨unhide HC1, unhide HC2, fun h => by have := unhide HK0; omega⟩
            have hk1 : ¬ (0 : Int) < (k : Int) := by omega
            have hk2 : decide ((0 : Int) < (k : Int)) = false := decide_eq_false hk1
            have hk3 : decide (0 < k) = false := decide_eq_false (by omega)
            clear hk0 hk1
            go_wp2_with (first
              | ((with_reducible refine wpList_alloc_dot (by rfl) (by rfl) (some 4) (by rfl) M (unhide HM) ?_); intro W1 HX1 HB1 HS1; simp only [Act.put, List.setIfInBounds_toArray, List.set_cons_zero, List.set_cons_succ])
              | ((with_reducible refine wpList_store_dot (by rfl) (.tmp 4) (.tmp 14) (by rfl) M (qa : Int) (qc : Int) (by with_unfolding_all rfl) (by with_unfolding_all rfl) (unhide HX1) ?_); intro W2 HX2 HE2; simp only [Act.put]; obtain ⟨y0, y1⟩ := box2 (unhide HX2))
              | fail)
            go_quiet (fail)
            go_wp2
            go_roundw
            case rel => exact ⟨k + 1, by omega, by go_num, belowDrewN (unhide HK _ (by rw [unhide HE2]; exact belowRow (unhide HB1) (Nat.le_refl _) _)) _, unhide HR (unhide HGk)⟩
            case measure => simp [intOf]; omega
          · obtain ⟨j, hj⟩ : ∃ j, k = j + 1 := ⟨k - 1, by omega⟩
            have hjl : j < l.length := by omega
            obtain ⟨g', o', hao', d1, d2⟩ := (unhide HLB).dt hjl
            cases hao'
            have hix2 := ixD g o n c j (by omega)
            have hw1 : IntKind.i64.wrap ((k : Int) - 1) = (j : Int) := by rw [IntKind.wrap_i64]; omega
            have hk1 : (0 : Int) < (k : Int) := by omega
            have hk2 : decide ((0 : Int) < (k : Int)) = true := decide_eq_true hk1
            have hk3 : decide (0 < k) = true := decide_eq_true (by omega)
            have HG3 : Hid (V.good l k hkl ↔ 1 ≤ qc ∧ qc ≤ 1099511627776 ∧ l[j].1 < qa) := by
              subst hj
              refine (unhide HG2).trans ⟨fun h => ⟨h.1, h.2.1, h.2.2 (Nat.succ_pos _)⟩, fun h => ⟨h.1, h.2.1, fun _ => h.2.2⟩⟩
            have HF3 := unhide HF _ (List.getElem_mem hjl)
            generalize l[j] = p at *
            obtain ⟨pa, pc⟩ := p
            have HF4 : Hid (pa < 4294967296) := HF3.1
            have d1 : wr.cell? ⟨g, o + j * 2, none⟩ = some (.int .u32 (pa : Int)) := d1
            have D1 := hide d1
            have HJ := hide hj
            clear d2 hj d1 HF3
            have HDB : Hid (∀ W : World, Below M wr W → W.cell? ⟨g, o + j * 2, none⟩ = some (.int .u32 (pa : Int))) := fun W hW => (hW.cell (p := ⟨g, o + j * 2, none⟩) (by rw [unhide HM]; exact World.block_lt_of_cell? wr _ (unhide D1))).trans (unhide D1)
            generalize o + j * 2 = oj at *
            by_cases hpa : pa < qa
            · have HGk : Hid (V.good l k hkl) := (unhide HG3).2 ⟨unhide HC1, unhide HC2, hpa⟩
              have hp1 : ¬ (qa : Int) ≤ (pa : Int) := by omega
              have hp2 : decide ((qa : Int) ≤ (pa : Int)) = false := decide_eq_false hp1
              have hp3 : decide (qa ≤ pa) = false := decide_eq_false (by omega)
              go_wp2_with (first
                | ((with_reducible refine wpList_alloc_dot (by rfl) (by rfl) (some 4) (by rfl) M (unhide HM) ?_); intro W1 HX1 HB1 HS1; simp only [Act.put, List.setIfInBounds_toArray, List.set_cons_zero, List.set_cons_succ])
                | ((with_reducible refine wpList_store_dot (by rfl) (.tmp 4) (.tmp 14) (by rfl) M (qa : Int) (qc : Int) (by with_unfolding_all rfl) (by with_unfolding_all rfl) (unhide HX1) ?_); intro W2 HX2 HE2; simp only [Act.put]; obtain ⟨y0, y1⟩ := box2 (unhide HX2); have HB2 : Hid (Below M wr W2) := (by rw [unhide HE2]; exact belowRow (unhide HB1) (Nat.le_refl _) _); have hd2 := unhide HDB _ (unhide HB2))
                | fail)
              go_quiet (fail)
              go_wp2
              go_roundw
              case rel => exact ⟨k + 1, by omega, by go_num, belowDrewN (unhide HK _ (unhide HB2)) _, unhide HR (unhide HGk)⟩
              case measure => simp [intOf]; omega
            · have HB : Hid (ok = false) := unhide HE1 fun hg => hpa ((unhide HG3).1 hg).2.2
              have hp1 : (qa : Int) ≤ (pa : Int) := by omega
              have hp2 : decide ((qa : Int) ≤ (pa : Int)) = true := decide_eq_true hp1
              have hp3 : decide (qa ≤ pa) = true := decide_eq_true (by omega)
              go_wp2_with (first
                | ((with_reducible refine wpList_alloc_dot (by rfl) (by rfl) (some 4) (by rfl) M (unhide HM) ?_); intro W1 HX1 HB1 HS1; simp only [Act.put, List.setIfInBounds_toArray, List.set_cons_zero, List.set_cons_succ])
                | ((with_reducible refine wpList_store_dot (by rfl) (.tmp 4) (.tmp 14) (by rfl) M (qa : Int) (qc : Int) (by with_unfolding_all rfl) (by with_unfolding_all rfl) (unhide HX1) ?_); intro W2 HX2 HE2; simp only [Act.put]; obtain ⟨y0, y1⟩ := box2 (unhide HX2); have HB2 : Hid (Below M wr W2) := (by rw [unhide HE2]; exact belowRow (unhide HB1) (Nat.le_refl _) _); have hd2 := unhide HDB _ (unhide HB2))
                | fail)
              go_quiet (fail)
              go_wp2
              go_ret
              exact ⟨by rw [unhide HB]; rfl, belowDrewN (unhide HK _ (unhide HB2)) _⟩
        · have HB : Hid (ok = false) := unhide HE1 fun hg => hcn ⟨((unhide HG2).1 hg).1, ((unhide HG2).1 hg).2.1⟩
          by_cases hc3 : (qc : Int) < 1
          · go_wp2_with (first
              | ((with_reducible refine wpList_alloc_dot (by rfl) (by rfl) (some 4) (by rfl) M (unhide HM) ?_); intro W1 HX1 HB1 HS1; simp only [Act.put, List.setIfInBounds_toArray, List.set_cons_zero, List.set_cons_succ])
              | ((with_reducible refine wpList_store_dot (by rfl) (.tmp 4) (.tmp 14) (by rfl) M (qa : Int) (qc : Int) (by with_unfolding_all rfl) (by with_unfolding_all rfl) (unhide HX1) ?_); intro W2 HX2 HE2; simp only [Act.put]; obtain ⟨y0, y1⟩ := box2 (unhide HX2))
              | fail)
            go_ret
            exact ⟨by rw [unhide HB]; rfl, unhide HK _ (by rw [unhide HE2]; exact belowRow (unhide HB1) (Nat.le_refl _) _)⟩
          · have hc4 : (1099511627776 : Int) < (qc : Int) := by omega
            go_wp2_with (first
              | ((with_reducible refine wpList_alloc_dot (by rfl) (by rfl) (some 4) (by rfl) M (unhide HM) ?_); intro W1 HX1 HB1 HS1; simp only [Act.put, List.setIfInBounds_toArray, List.set_cons_zero, List.set_cons_succ])
              | ((with_reducible refine wpList_store_dot (by rfl) (.tmp 4) (.tmp 14) (by rfl) M (qa : Int) (qc : Int) (by with_unfolding_all rfl) (by with_unfolding_all rfl) (unhide HX1) ?_); intro W2 HX2 HE2; simp only [Act.put]; obtain ⟨y0, y1⟩ := box2 (unhide HX2))
              | fail)
            go_ret
            exact ⟨by rw [unhide HB]; rfl, unhide HK _ (by rw [unhide HE2]; exact belowRow (unhide HB1) (Nat.le_refl _) _)⟩
      · obtain rfl : k = n := by omega
        have hki : ¬ (k : Int) < (k : Int) := by omega
        go_wp2
        go_ret
        refine ⟨?_, (unhide HI).1⟩
        rw [unhide HT fun i hi => (unhide HI).2 i hi (by rw [unhide HLN]; exact hi)]
        rfl
  · have e : V.okB l = false := V.okB_false.2 fun ho => h64 ho.len
    rw [e]
    have hi : ¬ (l.length : Int) ≤ 64 := by omega
    have hi2 : (64 : Int) < (l.length : Int) := by omega
    go_enter Try.func122, Try.ntmps122
    go_wp2
    go_ret
    exact ⟨rfl, by rw [unhide HN]; exact Below.refl _ _⟩
end Go.Proofs.Ytkcbljmjhlnjpaa
