/- Vectors as lists of numbers: counts, the order, the max, a vector out of any dots. Of no program. -/
import Derived.Test.YtbahfpcfjhifbaaMm
namespace Go.Proofs.Ytbahfpcfjhifbaa.V

/-- an actor's count -/
def cnt : List (Nat × Nat) → Nat → Nat
  | [], _ => 0
  | d :: l, a => if d.1 = a then d.2 else cnt l a
/-- actors rise, counts are 1 to 2^40 -/
def Up (l : List (Nat × Nat)) : Prop := l.Pairwise fun x y => x.1 < y.1
def Pos (l : List (Nat × Nat)) : Prop := ∀ d ∈ l, 1 ≤ d.2 ∧ d.2 ≤ 1099511627776
structure Vec (l : List (Nat × Nat)) : Prop where
  up : Up l
  pos : Pos l
structure Ok (l : List (Nat × Nat)) : Prop extends Vec l where
  len : l.length ≤ 64
/-- the greater of two -/
def later (x y : Nat × Nat) : Nat × Nat := if x.2 < y.2 then y else x
/-- the max of two -/
def mrg : List (Nat × Nat) → List (Nat × Nat) → List (Nat × Nat)
  | [], b => b
  | x :: a, [] => x :: a
  | x :: a, y :: b => if x.1 < y.1 then x :: mrg a (y :: b) else if y.1 < x.1 then y :: mrg (x :: a) b else later x y :: mrg a b
termination_by a b => a.length + b.length
theorem mrg_nil (a : List (Nat × Nat)) : mrg a [] = a := by cases a <;> simp [mrg]
theorem nil_mrg (a : List (Nat × Nat)) : mrg [] a = a := by simp [mrg]
theorem cnt_zero_of {l : List (Nat × Nat)} {a : Nat} (h : ∀ d ∈ l, d.1 ≠ a) : cnt l a = 0 := by
  induction l with
  | nil => rfl
  | cons d l ih => simp only [cnt]; rw [if_neg (h d (List.mem_cons_self ..)), ih (fun x hx => h x (List.mem_cons_of_mem _ hx))]
theorem cnt_mem {l : List (Nat × Nat)} (hu : Up l) {d : Nat × Nat} (hd : d ∈ l) : cnt l d.1 = d.2 := by
  induction l with
  | nil => cases hd
  | cons x l ih =>
    simp only [cnt]
    rcases List.mem_cons.1 hd with rfl | hd
    · simp
    · have := (List.pairwise_cons.1 hu).1 d hd
      rw [if_neg (by omega), ih (List.pairwise_cons.1 hu).2 hd]
theorem cnt_pos {l : List (Nat × Nat)} {a : Nat} (h : cnt l a ≠ 0) : ∃ d ∈ l, d.1 = a ∧ d.2 = cnt l a := by
  induction l with
  | nil => simp [cnt] at h
  | cons x l ih =>
    simp only [cnt] at h ⊢
    by_cases e : x.1 = a
    · exact ⟨x, List.mem_cons_self .., e, by rw [if_pos e]⟩
    · rw [if_neg e] at h ⊢
      obtain ⟨d, h1, h2, h3⟩ := ih h
      exact ⟨d, List.mem_cons_of_mem _ h1, h2, h3⟩
theorem cnt_lt {l : List (Nat × Nat)} {x : Nat × Nat} (hu : Up (x :: l)) {a : Nat} (ha : a ≤ x.1) : cnt l a = 0 :=
  cnt_zero_of fun d hd => by have := (List.pairwise_cons.1 hu).1 d hd; omega
theorem cnt_le {l : List (Nat × Nat)} (h : Pos l) (a : Nat) : cnt l a ≤ 1099511627776 := by
  by_cases h0 : cnt l a = 0
  · omega
  · obtain ⟨d, h1, h2, h3⟩ := cnt_pos h0
    have := (h d h1).2; omega
theorem Vec.tail {x : Nat × Nat} {l : List (Nat × Nat)} (h : Vec (x :: l)) : Vec l := ⟨(List.pairwise_cons.1 h.up).2, fun d hd => h.pos d (List.mem_cons_of_mem _ hd)⟩
/-- two vectors that count alike are one -/
theorem ext {l m : List (Nat × Nat)} (hl : Vec l) (hm : Vec m) (h : ∀ a, cnt l a = cnt m a) : l = m := by
  induction l generalizing m with
  | nil =>
    cases m with
    | nil => rfl
    | cons y m => have := h y.1; have := (hm.pos y (List.mem_cons_self ..)).1; simp [cnt] at *; omega
  | cons x l ih =>
    cases m with
    | nil => have := h x.1; have := (hl.pos x (List.mem_cons_self ..)).1; simp [cnt] at *; omega
    | cons y m =>
      have p1 := (hl.pos x (List.mem_cons_self ..)).1
      have p2 := (hm.pos y (List.mem_cons_self ..)).1
      have e1 : x.1 = y.1 := by
        rcases Nat.lt_trichotomy x.1 y.1 with q | q | q
        · have := h x.1
          simp only [cnt, if_true] at this
          rw [if_neg (by omega), cnt_lt hm.up (by omega)] at this
          omega
        · exact q
        · have := h y.1
          simp only [cnt, if_true] at this
          rw [if_neg (by omega), cnt_lt hl.up (by omega)] at this
          omega
      have e2 : x.2 = y.2 := by
        have := h x.1
        simp only [cnt, if_true] at this
        rw [if_pos e1.symm] at this
        exact this
      have exy : x = y := Prod.ext e1 e2
      subst exy
      rw [ih hl.tail hm.tail fun a => ?_]
      have := h a
      simp only [cnt] at this
      by_cases q : x.1 = a
      · subst q; rw [cnt_lt hl.up (Nat.le_refl _), cnt_lt hm.up (Nat.le_refl _)]
      · rw [if_neg q, if_neg q] at this; exact this
theorem mrg_mem {a b : List (Nat × Nat)} : ∀ d ∈ mrg a b, (∃ x ∈ a, x.1 = d.1) ∨ ∃ y ∈ b, y.1 = d.1 := by
  induction a, b using mrg.induct with
  | case1 b => intro d hd; rw [nil_mrg] at hd; exact .inr ⟨d, hd, rfl⟩
  | case2 x a => intro d hd; rw [mrg_nil] at hd; exact .inl ⟨d, hd, rfl⟩
  | case3 x a y b h ih =>
    intro d hd
    rw [mrg, if_pos h] at hd
    rcases List.mem_cons.1 hd with rfl | hd
    · exact .inl ⟨d, List.mem_cons_self .., rfl⟩
    · rcases ih d hd with ⟨z, hz, e⟩ | ⟨z, hz, e⟩
      · exact .inl ⟨z, List.mem_cons_of_mem _ hz, e⟩
      · exact .inr ⟨z, hz, e⟩
  | case4 x a y b h h2 ih =>
    intro d hd
    rw [mrg, if_neg h, if_pos h2] at hd
    rcases List.mem_cons.1 hd with rfl | hd
    · exact .inr ⟨d, List.mem_cons_self .., rfl⟩
    · rcases ih d hd with ⟨z, hz, e⟩ | ⟨z, hz, e⟩
      · exact .inl ⟨z, hz, e⟩
      · exact .inr ⟨z, List.mem_cons_of_mem _ hz, e⟩
  | case5 x a y b h h2 ih =>
    intro d hd
    rw [mrg, if_neg h, if_neg h2] at hd
    rcases List.mem_cons.1 hd with rfl | hd
    · refine .inl ⟨x, List.mem_cons_self .., ?_⟩
      unfold later; split <;> omega
    · rcases ih d hd with ⟨z, hz, e⟩ | ⟨z, hz, e⟩
      · exact .inl ⟨z, List.mem_cons_of_mem _ hz, e⟩
      · exact .inr ⟨z, List.mem_cons_of_mem _ hz, e⟩
theorem later_fst {x y : Nat × Nat} (h : x.1 = y.1) : (later x y).1 = x.1 := by unfold later; split <;> omega
theorem later_snd (x y : Nat × Nat) : (later x y).2 = max x.2 y.2 := by unfold later; split <;> omega
theorem mrg_vec {a b : List (Nat × Nat)} (ha : Vec a) (hb : Vec b) : Vec (mrg a b) := by
  induction a, b using mrg.induct with
  | case1 b => rw [nil_mrg]; exact hb
  | case2 x a => rw [mrg_nil]; exact ha
  | case3 x a y b h ih =>
    rw [mrg, if_pos h]
    have hv := ih ha.tail hb
    refine ⟨List.pairwise_cons.2 ⟨fun d hd => ?_, hv.up⟩, fun d hd => ?_⟩
    · rcases mrg_mem d hd with ⟨z, hz, e⟩ | ⟨z, hz, e⟩
      · have := (List.pairwise_cons.1 ha.up).1 z hz; omega
      · rcases List.mem_cons.1 hz with rfl | hz
        · omega
        · have := (List.pairwise_cons.1 hb.up).1 z hz; omega
    · rcases List.mem_cons.1 hd with rfl | hd
      · exact ha.pos _ (List.mem_cons_self ..)
      · exact hv.pos d hd
  | case4 x a y b h h2 ih =>
    rw [mrg, if_neg h, if_pos h2]
    have hv := ih ha hb.tail
    refine ⟨List.pairwise_cons.2 ⟨fun d hd => ?_, hv.up⟩, fun d hd => ?_⟩
    · rcases mrg_mem d hd with ⟨z, hz, e⟩ | ⟨z, hz, e⟩
      · rcases List.mem_cons.1 hz with rfl | hz
        · omega
        · have := (List.pairwise_cons.1 ha.up).1 z hz; omega
      · have := (List.pairwise_cons.1 hb.up).1 z hz; omega
    · rcases List.mem_cons.1 hd with rfl | hd
      · exact hb.pos _ (List.mem_cons_self ..)
      · exact hv.pos d hd
  | case5 x a y b h h2 ih =>
    rw [mrg, if_neg h, if_neg h2]
    have hv := ih ha.tail hb.tail
    have hxy : x.1 = y.1 := by omega
    have p1 := ha.pos x (List.mem_cons_self ..)
    have p2 := hb.pos y (List.mem_cons_self ..)
    refine ⟨List.pairwise_cons.2 ⟨fun d hd => ?_, hv.up⟩, fun d hd => ?_⟩
    · rw [later_fst hxy]
      rcases mrg_mem d hd with ⟨z, hz, e⟩ | ⟨z, hz, e⟩
      · have := (List.pairwise_cons.1 ha.up).1 z hz; omega
      · have := (List.pairwise_cons.1 hb.up).1 z hz; omega
    · rcases List.mem_cons.1 hd with rfl | hd
      · rw [later_snd]; omega
      · exact hv.pos d hd
theorem cnt_mrg {a b : List (Nat × Nat)} (ha : Vec a) (hb : Vec b) (k : Nat) : cnt (mrg a b) k = max (cnt a k) (cnt b k) := by
  induction a, b using mrg.induct with
  | case1 b => rw [nil_mrg]; simp [cnt]
  | case2 x a => rw [mrg_nil]; simp [cnt]
  | case3 x a y b h ih =>
    rw [mrg, if_pos h, cnt, ih ha.tail hb]
    by_cases e : x.1 = k
    · rw [if_pos e, show cnt (x :: a) k = x.2 by rw [cnt, if_pos e]]
      have : cnt (y :: b) k = 0 := by rw [cnt, if_neg (by omega)]; exact cnt_lt hb.up (by omega)
      omega
    · rw [if_neg e, show cnt (x :: a) k = cnt a k by rw [cnt, if_neg e]]
  | case4 x a y b h h2 ih =>
    rw [mrg, if_neg h, if_pos h2, cnt, ih ha hb.tail]
    by_cases e : y.1 = k
    · rw [if_pos e, show cnt (y :: b) k = y.2 by rw [cnt, if_pos e]]
      have : cnt (x :: a) k = 0 := by rw [cnt, if_neg (by omega)]; exact cnt_lt ha.up (by omega)
      omega
    · rw [if_neg e, show cnt (y :: b) k = cnt b k by rw [cnt, if_neg e]]
  | case5 x a y b h h2 ih =>
    have hxy : x.1 = y.1 := by omega
    rw [mrg, if_neg h, if_neg h2, cnt, ih ha.tail hb.tail, later_fst hxy, cnt, cnt]
    by_cases e : x.1 = k
    · rw [if_pos e, if_pos e, if_pos (by omega), later_snd]
    · rw [if_neg e, if_neg e, if_neg (by omega)]
theorem mrg_len_le (a b : List (Nat × Nat)) : (mrg a b).length ≤ a.length + b.length := by
  induction a, b using mrg.induct with
  | case1 b => rw [nil_mrg]; simp
  | case2 x a => rw [mrg_nil]; simp
  | case3 x a y b h ih => rw [mrg, if_pos h]; simp at *; omega
  | case4 x a y b h h2 ih => rw [mrg, if_neg h, if_pos h2]; simp at *; omega
  | case5 x a y b h h2 ih => rw [mrg, if_neg h, if_neg h2]; simp at *; omega
theorem len_mrg_ge (a b : List (Nat × Nat)) : a.length ≤ (mrg a b).length ∧ b.length ≤ (mrg a b).length := by
  induction a, b using mrg.induct with
  | case1 b => rw [nil_mrg]; simp
  | case2 x a => rw [mrg_nil]; simp
  | case3 x a y b h ih => rw [mrg, if_pos h]; simp at *; omega
  | case4 x a y b h h2 ih => rw [mrg, if_neg h, if_pos h2]; simp at *; omega
  | case5 x a y b h h2 ih => rw [mrg, if_neg h, if_neg h2]; simp at *; omega
/-- a is below b -/
def Bel (a b : List (Nat × Nat)) : Prop := ∀ k, cnt a k ≤ cnt b k
theorem mrg_eq_iff {a b : List (Nat × Nat)} (ha : Vec a) (hb : Vec b) : mrg a b = b ↔ Bel a b := by
  constructor
  · intro h k
    have := cnt_mrg ha hb k
    rw [h] at this; omega
  · intro h
    refine ext (mrg_vec ha hb) hb fun k => ?_
    rw [cnt_mrg ha hb]; have := h k; omega
theorem mrg_comm {a b : List (Nat × Nat)} (ha : Vec a) (hb : Vec b) : mrg a b = mrg b a :=
  ext (mrg_vec ha hb) (mrg_vec hb ha) fun k => by rw [cnt_mrg ha hb, cnt_mrg hb ha]; omega
theorem mrg_assoc {a b c : List (Nat × Nat)} (ha : Vec a) (hb : Vec b) (hc : Vec c) : mrg (mrg a b) c = mrg a (mrg b c) :=
  ext (mrg_vec (mrg_vec ha hb) hc) (mrg_vec ha (mrg_vec hb hc)) fun k => by rw [cnt_mrg (mrg_vec ha hb) hc, cnt_mrg ha (mrg_vec hb hc), cnt_mrg ha hb, cnt_mrg hb hc]; omega
theorem mrg_self {a : List (Nat × Nat)} (ha : Vec a) : mrg a a = a := (mrg_eq_iff ha ha).2 fun _ => Nat.le_refl _
theorem bel_antisymm {a b : List (Nat × Nat)} (ha : Vec a) (hb : Vec b) (h : Bel a b) (h2 : Bel b a) : a = b := ext ha hb fun k => Nat.le_antisymm (h k) (h2 k)
theorem bel_mrg {a b c : List (Nat × Nat)} (ha : Vec a) (hb : Vec b) : Bel (mrg a b) c ↔ Bel a c ∧ Bel b c := by
  constructor
  · intro h
    exact ⟨fun k => by have := h k; rw [cnt_mrg ha hb] at this; omega, fun k => by have := h k; rw [cnt_mrg ha hb] at this; omega⟩
  · rintro ⟨h1, h2⟩ k
    rw [cnt_mrg ha hb]; have := h1 k; have := h2 k; omega
/-- is the i-th dot as it must be -/
def good (l : List (Nat × Nat)) (i : Nat) (h : i < l.length) : Prop := 1 ≤ l[i].2 ∧ l[i].2 ≤ 1099511627776 ∧ (0 < i → l[i - 1].1 < l[i].1)
theorem up_of {l : List (Nat × Nat)} (h : ∀ i (h : i + 1 < l.length), l[i].1 < l[i + 1].1) : Up l := by
  refine List.pairwise_iff_getElem.2 fun i j hi hj hij => ?_
  obtain ⟨k, rfl⟩ : ∃ k, j = i + 1 + k := ⟨j - (i + 1), by omega⟩
  clear hij
  induction k with
  | zero => exact h i hj
  | succ k ih => exact Nat.lt_trans (ih (by omega)) (h (i + 1 + k) hj)
theorem ok_iff {l : List (Nat × Nat)} : Ok l ↔ l.length ≤ 64 ∧ ∀ i (h : i < l.length), good l i h := by
  constructor
  · intro h
    refine ⟨h.len, fun i hi => ⟨(h.pos _ (List.getElem_mem hi)).1, (h.pos _ (List.getElem_mem hi)).2, fun h0 => ?_⟩⟩
    exact List.pairwise_iff_getElem.1 h.up (i - 1) i (by omega) hi (by omega)
  · rintro ⟨h1, h2⟩
    refine ⟨⟨up_of fun i hi => ?_, fun d hd => ?_⟩, h1⟩
    · exact (h2 (i + 1) hi).2.2 (by omega)
    · obtain ⟨i, hi, rfl⟩ := List.getElem_of_mem hd
      exact ⟨(h2 i hi).1, (h2 i hi).2.1⟩
open Classical in
noncomputable def okB (l : List (Nat × Nat)) : Bool := decide (Ok l)
open Classical in
theorem okB_true {l : List (Nat × Nat)} : okB l = true ↔ Ok l := by unfold okB; exact decide_eq_true_iff
open Classical in
theorem okB_false {l : List (Nat × Nat)} : okB l = false ↔ ¬ Ok l := by unfold okB; exact decide_eq_false_iff_not
theorem not_ok_at {l : List (Nat × Nat)} {i : Nat} (h : i < l.length) (hg : ¬ good l i h) : okB l = false := okB_false.2 fun ho => hg ((ok_iff.1 ho).2 i h)
/-- the count by Count -/
noncomputable def cntV (l : List (Nat × Nat)) (a : Nat) : Nat := if okB l then cnt l a else 0
theorem cnt_at {l : List (Nat × Nat)} {i : Nat} (hi : i < l.length) (hn : ∀ j (h : j < l.length), j < i → l[j].1 ≠ l[i].1) : cnt l l[i].1 = l[i].2 := by
  induction l generalizing i with
  | nil => simp at hi
  | cons x l ih =>
    cases i with
    | zero => simp [cnt]
    | succ i =>
      simp only [cnt, List.getElem_cons_succ]
      have h0 := hn 0 (by simp) (by omega)
      simp only [List.getElem_cons_zero, List.getElem_cons_succ] at h0
      rw [if_neg h0]
      exact ih (by simpa using hi) fun j hj hji => by have := hn (j + 1) (by simpa using hj) (by omega); simpa using this
theorem cnt_none {l : List (Nat × Nat)} {a : Nat} (hn : ∀ j (h : j < l.length), l[j].1 ≠ a) : cnt l a = 0 :=
  cnt_zero_of fun d hd => by obtain ⟨i, hi, rfl⟩ := List.getElem_of_mem hd; exact hn i hi
/-- how many ahead have a lesser actor -/
def plc : List (Nat × Nat) → Nat → Nat
  | [], _ => 0
  | x :: l, a => if x.1 < a then plc l a + 1 else 0
theorem plc_le (l : List (Nat × Nat)) (a : Nat) : plc l a ≤ l.length := by
  induction l with
  | nil => simp [plc]
  | cons x l ih => simp only [plc]; split <;> simp <;> omega
theorem plc_lt (l : List (Nat × Nat)) (a j : Nat) (h : j < plc l a) (hj : j < l.length) : l[j].1 < a := by
  induction l generalizing j with
  | nil => simp at hj
  | cons x l ih =>
    simp only [plc] at h
    split at h
    · rename_i hx
      cases j with
      | zero => exact hx
      | succ j => exact ih j (by omega) (by simpa using hj)
    · omega
theorem plc_ge (l : List (Nat × Nat)) (a : Nat) (h : plc l a < l.length) : a ≤ l[plc l a].1 := by
  induction l with
  | nil => simp at h
  | cons x l ih =>
    by_cases hx : x.1 < a
    · have e : plc (x :: l) a = plc l a + 1 := by simp [plc, hx]
      have h' : plc l a < l.length := by rw [e] at h; simpa using h
      have := ih h'
      simp only [e, List.getElem_cons_succ]; exact this
    · have e : plc (x :: l) a = 0 := by simp [plc, hx]
      simp only [e, List.getElem_cons_zero]; omega
theorem plc_eq {l : List (Nat × Nat)} {a k : Nat} (hk : k ≤ l.length) (h1 : ∀ j (h : j < l.length), j < k → l[j].1 < a) (h2 : ∀ h : k < l.length, a ≤ l[k].1) : plc l a = k := by
  rcases Nat.lt_trichotomy (plc l a) k with h | h | h
  · have := plc_ge l a (by omega); have := h1 (plc l a) (by omega) h; omega
  · exact h
  · have hl := plc_le l a
    have := plc_lt l a k h (by omega); have := h2 (by omega); omega
/-- is the actor there -/
def has (l : List (Nat × Nat)) (a : Nat) : Prop := ∃ d ∈ l, d.1 = a
/-- one dot more -/
def put (l : List (Nat × Nat)) (p : Nat) (d : Nat × Nat) : List (Nat × Nat) := l.take p ++ d :: l.drop p
open Classical in
noncomputable def ins (l : List (Nat × Nat)) (d : Nat × Nat) : List (Nat × Nat) := if ∃ h : plc l d.1 < l.length, l[plc l d.1].1 = d.1 then l else put l (plc l d.1) d
theorem ins_old {l : List (Nat × Nat)} {d : Nat × Nat} (h : plc l d.1 < l.length) (he : l[plc l d.1].1 = d.1) : ins l d = l := if_pos ⟨h, he⟩
theorem ins_new {l : List (Nat × Nat)} {d : Nat × Nat} (he : ∀ h : plc l d.1 < l.length, l[plc l d.1].1 ≠ d.1) : ins l d = put l (plc l d.1) d := if_neg fun ⟨h, e⟩ => he h e
theorem put_len {l : List (Nat × Nat)} {p : Nat} {d : Nat × Nat} (hp : p ≤ l.length) : (put l p d).length = l.length + 1 := by simp [put]; omega
theorem ins_len (l : List (Nat × Nat)) (d : Nat × Nat) : (ins l d).length ≤ l.length + 1 := by
  unfold ins; split
  · omega
  · rw [put_len (plc_le _ _)]; omega
theorem mem_put {l : List (Nat × Nat)} {p : Nat} {d x : Nat × Nat} : x ∈ put l p d ↔ x = d ∨ x ∈ l := by
  unfold put
  rw [List.mem_append, List.mem_cons]
  constructor
  · rintro (h | h | h)
    · exact .inr (List.mem_of_mem_take h)
    · exact .inl h
    · exact .inr (List.mem_of_mem_drop h)
  · rintro (h | h)
    · exact .inr (.inl h)
    · rw [← List.take_append_drop p l, List.mem_append] at h
      rcases h with h | h
      · exact .inl h
      · exact .inr (.inr h)
theorem has_ins (l : List (Nat × Nat)) (d : Nat × Nat) (a : Nat) : has (ins l d) a ↔ d.1 = a ∨ has l a := by
  unfold ins
  split
  · rename_i h
    obtain ⟨h, e⟩ := h
    constructor
    · exact .inr
    · rintro (rfl | h')
      · exact ⟨_, List.getElem_mem h, e⟩
      · exact h'
  · constructor
    · rintro ⟨x, hx, rfl⟩
      rcases mem_put.1 hx with rfl | hx
      · exact .inl rfl
      · exact .inr ⟨x, hx, rfl⟩
    · rintro (rfl | ⟨x, hx, rfl⟩)
      · exact ⟨d, mem_put.2 (.inl rfl), rfl⟩
      · exact ⟨x, mem_put.2 (.inr hx), rfl⟩
theorem ins_vec {l : List (Nat × Nat)} {d : Nat × Nat} (hl : Vec l) (hd : 1 ≤ d.2 ∧ d.2 ≤ 1099511627776) : Vec (ins l d) := by
  by_cases hx : ∃ h : plc l d.1 < l.length, l[plc l d.1].1 = d.1
  · obtain ⟨h, e⟩ := hx; rw [ins_old h e]; exact hl
  · have hx' : ∀ h : plc l d.1 < l.length, l[plc l d.1].1 ≠ d.1 := fun h e => hx ⟨h, e⟩
    rw [ins_new hx']
    refine ⟨?_, fun x hx => ?_⟩
    · unfold put Up
      have h1 : ∀ x ∈ l.take (plc l d.1), x.1 < d.1 := fun x hx => by
        obtain ⟨i, hi, rfl⟩ := List.getElem_of_mem hx
        rw [List.length_take] at hi
        rw [List.getElem_take]
        exact plc_lt l d.1 i (by omega) (by omega)
      have h2 : ∀ x ∈ l.drop (plc l d.1), d.1 < x.1 := fun x hx => by
        obtain ⟨i, hi, rfl⟩ := List.getElem_of_mem hx
        rw [List.length_drop] at hi
        rw [List.getElem_drop]
        have hp : plc l d.1 < l.length := by omega
        have hg := plc_ge l d.1 hp
        have hne := hx' hp
        cases i with
        | zero => simp only [Nat.add_zero]; omega
        | succ i =>
          have := List.pairwise_iff_getElem.1 hl.up (plc l d.1) (plc l d.1 + (i + 1)) hp (by omega) (by omega)
          omega
      refine List.pairwise_append.2 ⟨hl.up.sublist (List.take_sublist _ _), List.pairwise_cons.2 ⟨h2, hl.up.sublist (List.drop_sublist _ _)⟩, fun x hx y hy => ?_⟩
      rcases List.mem_cons.1 hy with rfl | hy
      · exact h1 x hx
      · exact Nat.lt_trans (h1 x hx) (h2 y hy)
    · rcases mem_put.1 hx with rfl | hx
      · exact hd
      · exact hl.pos x hx
def dn (d : Nat × Nat) : Nat × Nat := (d.1, d.2 % 1099511627776 + 1)
/-- a vector out of any dots -/
noncomputable def mkv (most : Nat) : List (Nat × Nat) → List (Nat × Nat) → List (Nat × Nat)
  | v, [] => v
  | v, d :: l => if v.length < most then mkv most (ins v (dn d)) l else v
theorem mkv_nil (most : Nat) (v : List (Nat × Nat)) : mkv most v [] = v := rfl
theorem mkv_full {most : Nat} {v l : List (Nat × Nat)} (h : ¬ v.length < most) : mkv most v l = v := by cases l <;> simp [mkv, h]
theorem mkv_cons {most : Nat} {v l : List (Nat × Nat)} {d : Nat × Nat} (h : v.length < most) : mkv most v (d :: l) = mkv most (ins v (dn d)) l := by simp [mkv, h]
theorem mkv_vec (most : Nat) {v l : List (Nat × Nat)} (h : Vec v) (hl : v.length ≤ most) : Vec (mkv most v l) ∧ (mkv most v l).length ≤ most := by
  induction l generalizing v with
  | nil => exact ⟨h, hl⟩
  | cons d l ih =>
    by_cases hv : v.length < most
    · rw [mkv_cons hv]
      exact ih (ins_vec h (by simp only [dn]; omega)) (by have := ins_len v (dn d); omega)
    · rw [mkv_full hv]; exact ⟨h, hl⟩
theorem vec_nil : Vec [] := ⟨List.Pairwise.nil, fun d hd => by cases hd⟩
theorem mkv_ok {most : Nat} (h : most ≤ 64) (l : List (Nat × Nat)) : Ok (mkv most [] l) := by
  have := mkv_vec most (l := l) vec_nil (Nat.zero_le _)
  exact ⟨this.1, by omega⟩
theorem has_mkv {most : Nat} {v l : List (Nat × Nat)} (h : v.length + l.length ≤ most) (a : Nat) : has (mkv most v l) a ↔ has v a ∨ has l a := by
  induction l generalizing v with
  | nil => rw [mkv_nil]; simp [has]
  | cons d l ih =>
    rw [List.length_cons] at h
    rw [mkv_cons (by omega), ih (by have := ins_len v (dn d); omega), has_ins]
    simp only [dn, has, List.mem_cons, exists_eq_or_imp]
    constructor
    · rintro ((h | h) | h)
      · exact .inr (.inl h)
      · exact .inl h
      · exact .inr (.inr h)
    · rintro (h | h | h)
      · exact .inl (.inr h)
      · exact .inl (.inl h)
      · exact .inr h
theorem has_iff {l : List (Nat × Nat)} (h : Vec l) (a : Nat) : has l a ↔ cnt l a ≠ 0 := by
  constructor
  · rintro ⟨d, hd, rfl⟩
    rw [cnt_mem h.up hd]; have := (h.pos d hd).1; omega
  · intro h0
    obtain ⟨d, h1, h2, _⟩ := cnt_pos h0
    exact ⟨d, h1, h2⟩
theorem has_append (l m : List (Nat × Nat)) (a : Nat) : has (l ++ m) a ↔ has l a ∨ has m a := by
  simp only [has, List.mem_append]
  constructor
  · rintro ⟨d, h | h, e⟩
    · exact .inl ⟨d, h, e⟩
    · exact .inr ⟨d, h, e⟩
  · rintro (⟨d, h, e⟩ | ⟨d, h, e⟩)
    · exact ⟨d, .inl h, e⟩
    · exact ⟨d, .inr h, e⟩
/-- the actors alone -/
def ones (l : List (Nat × Nat)) : List (Nat × Nat) := l.map fun d => (d.1, 1)
theorem ones_vec {l : List (Nat × Nat)} (h : Up l) : Vec (ones l) :=
  ⟨List.pairwise_map.2 h, fun d hd => by obtain ⟨x, _, rfl⟩ := List.mem_map.1 hd; simp⟩
theorem has_ones (l : List (Nat × Nat)) (a : Nat) : has (ones l) a ↔ has l a := by
  simp only [has, ones, List.mem_map]
  constructor
  · rintro ⟨d, ⟨x, hx, rfl⟩, rfl⟩; exact ⟨x, hx, rfl⟩
  · rintro ⟨x, hx, rfl⟩; exact ⟨_, ⟨x, hx, rfl⟩, rfl⟩
theorem cnt_ones (l : List (Nat × Nat)) (a : Nat) : cnt (ones l) a ≤ 1 := by
  induction l with
  | nil => simp [ones, cnt]
  | cons d l ih => simp only [ones, List.map_cons, cnt] at ih ⊢; split <;> omega
/-- as many dots, if the actors are the same -/
theorem len_eq {l m : List (Nat × Nat)} (hl : Up l) (hm : Up m) (h : ∀ a, has l a ↔ has m a) : l.length = m.length := by
  have e : ones l = ones m := ext (ones_vec hl) (ones_vec hm) fun a => by
    have h1 := has_iff (ones_vec hl) a
    have h2 := has_iff (ones_vec hm) a
    rw [has_ones] at h1 h2
    have := cnt_ones l a
    have := cnt_ones m a
    have hh := h a
    rw [h1, h2] at hh
    omega
  have := congrArg List.length e
  simpa [ones] using this
theorem has_mrg {a b : List (Nat × Nat)} (ha : Vec a) (hb : Vec b) (k : Nat) : has (mrg a b) k ↔ has a k ∨ has b k := by
  rw [has_iff (mrg_vec ha hb), has_iff ha, has_iff hb, cnt_mrg ha hb]; omega
/-- as many as the max has -/
theorem union_len {a b : List (Nat × Nat)} (ha : Vec a) (hb : Vec b) {most : Nat} (h : a.length + b.length ≤ most) : (mkv most [] (a ++ b)).length = (mrg a b).length := by
  refine len_eq (mkv_vec most vec_nil (Nat.zero_le _)).1.up (mrg_vec ha hb).up fun k => ?_
  rw [has_mkv (by simpa using h), has_append, has_mrg ha hb]
  simp [has]
end Go.Proofs.Ytbahfpcfjhifbaa.V
