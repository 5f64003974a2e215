/- States as values: what they say of a dot, the join, the order. Of no program. -/
import Derived.Test.YtbahfpcfjhifbaaXa
import Derived.Test.YtbahfpcfjhifbaaXe
namespace Go.Proofs.Ytbahfpcfjhifbaa
open Go.RowKit
/-- is one text below another -/
def lt (a b : ByteArray) : Bool := Op.bytesLess a.toList b.toList
theorem bl_irrefl : ∀ x : List UInt8, Op.bytesLess x x = false
  | [] => rfl
  | a :: x => by simp [Op.bytesLess, bl_irrefl x]
theorem bl_trans : ∀ x y z : List UInt8, Op.bytesLess x y = true → Op.bytesLess y z = true → Op.bytesLess x z = true
  | [], [], _, h, _ => by simp [Op.bytesLess] at h
  | [], _ :: _, [], _, h => by simp [Op.bytesLess] at h
  | [], _ :: _, _ :: _, _, _ => by simp [Op.bytesLess]
  | _ :: _, [], _, h, _ => by simp [Op.bytesLess] at h
  | _ :: _, _ :: _, [], _, h => by simp [Op.bytesLess] at h
  | a :: x, b :: y, c :: z, h1, h2 => by
    simp only [Op.bytesLess, Bool.or_eq_true, decide_eq_true_eq, Bool.and_eq_true, beq_iff_eq] at h1 h2 ⊢
    rcases h1 with h1 | ⟨rfl, h1⟩ <;> rcases h2 with h2 | ⟨rfl, h2⟩
    · exact .inl (UInt8.lt_trans h1 h2)
    · exact .inl h1
    · exact .inl h2
    · exact .inr ⟨rfl, bl_trans x y z h1 h2⟩
theorem bl_total : ∀ x y : List UInt8, Op.bytesLess x y = false → Op.bytesLess y x = false → x = y
  | [], [], _, _ => rfl
  | [], _ :: _, h, _ => by simp [Op.bytesLess] at h
  | _ :: _, [], _, h => by simp [Op.bytesLess] at h
  | a :: x, b :: y, h1, h2 => by
    simp only [Op.bytesLess, Bool.or_eq_false_iff, decide_eq_false_iff_not, Bool.and_eq_false_iff, beq_eq_false_iff_ne, ne_eq] at h1 h2
    have e : a = b := UInt8.le_antisymm (UInt8.not_lt.1 h2.1) (UInt8.not_lt.1 h1.1)
    subst e
    rw [bl_total x y (h1.2.resolve_left (fun h => h rfl)) (h2.2.resolve_left (fun h => h rfl))]
theorem ba_list {a b : ByteArray} (h : a.toList = b.toList) : a = b := by
  have hx : ∀ x : ByteArray, x.toList = x.data.toList := fun x => by rw [ByteArray.toList_eq]
  rw [hx, hx] at h
  cases a; cases b
  congr 1
  exact Array.ext' h
theorem lt_irrefl (a : ByteArray) : lt a a = false := bl_irrefl _
theorem lt_trans {a b c : ByteArray} (h1 : lt a b = true) (h2 : lt b c = true) : lt a c = true := bl_trans _ _ _ h1 h2
theorem lt_total {a b : ByteArray} (h1 : lt a b = false) (h2 : lt b a = false) : a = b := ba_list (bl_total _ _ h1 h2)
theorem lt_asymm {a b : ByteArray} (h1 : lt a b = true) : lt b a = false := by
  cases h : lt b a
  · rfl
  · have := lt_trans h1 h; rw [lt_irrefl] at this; cases this

/-- a sibling -/
structure Sb where
  a : Nat
  c : Nat
  gone : Bool
  val : ByteArray
theorem Sb.ext' {x y : Sb} (h1 : x.a = y.a) (h2 : x.c = y.c) (h3 : x.gone = y.gone) (h4 : x.val = y.val) : x = y := by cases x; cases y; simp_all
def Sb.dot (x : Sb) : Nat × Nat := (x.a, x.c)
/-- one dot ahead of another -/
def ah (d e : Nat × Nat) : Prop := d.1 < e.1 ∨ d.1 = e.1 ∧ d.2 < e.2
instance (d e : Nat × Nat) : Decidable (ah d e) := by unfold ah; infer_instance
theorem ah_irrefl (d : Nat × Nat) : ¬ ah d d := by unfold ah; omega
theorem ah_trans {d e f : Nat × Nat} (h1 : ah d e) (h2 : ah e f) : ah d f := by unfold ah at *; omega
theorem ah_asymm {d e : Nat × Nat} (h1 : ah d e) : ¬ ah e d := by unfold ah at *; omega
theorem ah_total {d e : Nat × Nat} (h1 : ¬ ah d e) (h2 : d ≠ e) : ah e d := by
  unfold ah at *
  have : d.1 ≠ e.1 ∨ d.2 ≠ e.2 := by
    by_cases h : d.1 = e.1
    · exact .inr fun h3 => h2 (Prod.ext h h3)
    · exact .inl h
  omega
/-- may a sibling's content be -/
def Sb.may (x : Sb) : Prop := if x.gone then x.val.size = 0 else x.val.size ≤ 40
/-- has x the lesser content -/
def cl (x y : Sb) : Bool := if x.gone = y.gone then lt x.val y.val else x.gone
/-- the one of two with the lesser content -/
def less (x y : Sb) : Sb := if cl y x then y else x
/-- a state -/
structure St where
  seen : List (Nat × Nat)
  sibs : List Sb
/-- covered -/
def cov (l : List (Nat × Nat)) (d : Nat × Nat) : Prop := 1 ≤ d.2 ∧ d.2 ≤ V.cnt l d.1
instance (l : List (Nat × Nat)) (d : Nat × Nat) : Decidable (cov l d) := by unfold cov; infer_instance
def Rise (l : List Sb) : Prop := l.Pairwise fun x y => ah x.dot y.dot
structure SV (s : St) : Prop where
  vec : V.Vec s.seen
  up : Rise s.sibs
  cvd : ∀ x ∈ s.sibs, cov s.seen x.dot
  may : ∀ x ∈ s.sibs, x.may
structure SOk (s : St) : Prop extends SV s where
  slen : s.seen.length ≤ 64
  len : s.sibs.length ≤ 64
theorem SOk.ok {s : St} (h : SOk s) : V.Ok s.seen := ⟨h.vec, h.slen⟩
open Classical in
noncomputable def sokB (s : St) : Bool := decide (SOk s)
open Classical in
theorem sokB_true {s : St} : sokB s = true ↔ SOk s := by unfold sokB; exact decide_eq_true_iff
open Classical in
theorem sokB_false {s : St} : sokB s = false ↔ ¬ SOk s := by unfold sokB; exact decide_eq_false_iff_not
theorem covB_ok {l : List (Nat × Nat)} (h : V.Ok l) (d : Nat × Nat) : covB l d = decide (cov l d) := by
  unfold covB cov V.cntV; rw [V.okB_true.2 h]; rfl

/-- what a state says of a dot -/
inductive Say where
  | unseen
  | there (g : Bool) (v : ByteArray)
  | over
/-- the content (g, v) is below (g', v') -/
def ctl (g : Bool) (v : ByteArray) (g' : Bool) (v' : ByteArray) : Bool := if g = g' then lt v v' else g
theorem ctl_irrefl (g : Bool) (v : ByteArray) : ctl g v g v = false := by unfold ctl; simp [lt_irrefl]
theorem ctl_trans {a b c : Bool} {x y z : ByteArray} (h1 : ctl a x b y = true) (h2 : ctl b y c z = true) : ctl a x c z = true := by
  cases a <;> cases b <;> cases c <;> simp [ctl] at * <;> exact lt_trans h1 h2
theorem ctl_total {a b : Bool} {x y : ByteArray} (h1 : ctl a x b y = false) (h2 : ctl b y a x = false) : a = b ∧ x = y := by
  cases a <;> cases b <;> simp [ctl] at * <;> exact lt_total h1 h2
theorem ctl_asymm {a b : Bool} {x y : ByteArray} (h : ctl a x b y = true) : ctl b y a x = false := by
  cases h2 : ctl b y a x
  · rfl
  · have := ctl_trans h h2; rw [ctl_irrefl] at this; cases this
/-- the one is not later than the other -/
def Say.le : Say → Say → Prop
  | .unseen, _ => True
  | .there _ _, .unseen => False
  | .there g v, .there g' v' => ctl g v g' v' = false
  | .there _ _, .over => True
  | .over, .over => True
  | .over, _ => False
theorem Say.le_refl (a : Say) : a.le a := by cases a <;> simp [Say.le, ctl_irrefl]
theorem Say.le_trans {a b c : Say} (h1 : a.le b) (h2 : b.le c) : a.le c := by
  cases a <;> cases b <;> cases c <;> simp [Say.le] at *
  rename_i a x b y c z
  cases h : ctl a x c z
  · rfl
  · exfalso
    cases h3 : ctl b y a x
    · obtain ⟨rfl, rfl⟩ := ctl_total h1 h3; rw [h2] at h; cases h
    · have := ctl_trans h3 h; rw [h2] at this; cases this
theorem Say.le_antisymm {a b : Say} (h1 : a.le b) (h2 : b.le a) : a = b := by
  cases a <;> cases b <;> simp [Say.le] at *
  exact ctl_total h1 h2
theorem Say.le_total (a b : Say) : a.le b ∨ b.le a := by
  cases a <;> cases b <;> simp [Say.le]
  rename_i a x b y
  cases h : ctl a x b y
  · exact .inl rfl
  · exact .inr (ctl_asymm h)
open Classical in
/-- the later one of two -/
noncomputable def Say.later (a b : Say) : Say := if a.le b then b else a
theorem Say.le_later_l (a b : Say) : a.le (a.later b) := by
  unfold Say.later; split
  · assumption
  · exact Say.le_refl _
theorem Say.le_later_r (a b : Say) : b.le (a.later b) := by
  unfold Say.later; split
  · exact Say.le_refl _
  · rcases Say.le_total a b with h | h
    · contradiction
    · exact h
theorem Say.later_le {a b c : Say} (h1 : a.le c) (h2 : b.le c) : (a.later b).le c := by unfold Say.later; split <;> assumption
theorem Say.later_comm (a b : Say) : a.later b = b.later a :=
  Say.le_antisymm (Say.later_le (Say.le_later_r _ _) (Say.le_later_l _ _)) (Say.later_le (Say.le_later_r _ _) (Say.le_later_l _ _))
theorem Say.later_assoc (a b c : Say) : (a.later b).later c = a.later (b.later c) :=
  Say.le_antisymm (Say.later_le (Say.later_le (Say.le_later_l _ _) (Say.le_trans (Say.le_later_l _ _) (Say.le_later_r _ _))) (Say.le_trans (Say.le_later_r _ _) (Say.le_later_r _ _)))
    (Say.later_le (Say.le_trans (Say.le_later_l _ _) (Say.le_later_l _ _)) (Say.later_le (Say.le_trans (Say.le_later_r _ _) (Say.le_later_l _ _)) (Say.le_later_r _ _)))
theorem Say.later_self (a : Say) : a.later a = a := by unfold Say.later; split <;> rfl
theorem Say.later_eq_iff {a b : Say} : a.later b = b ↔ a.le b := by
  constructor
  · intro h; rw [← h]; exact Say.le_later_l _ _
  · intro h; unfold Say.later; rw [if_pos h]
theorem Say.later_unseen (a : Say) : a.later .unseen = a := by rw [Say.later_comm, Say.later_eq_iff]; trivial
theorem Say.unseen_later (a : Say) : Say.later .unseen a = a := Say.later_eq_iff.2 trivial
theorem Say.over_later (a : Say) : Say.later .over a = .over := by rw [Say.later_comm, Say.later_eq_iff]; cases a <;> trivial
theorem Say.later_over (a : Say) : a.later .over = .over := by rw [Say.later_eq_iff]; cases a <;> trivial

def says (s : St) (d : Nat × Nat) : Say :=
  match s.sibs.find? (fun x => decide (x.dot = d)) with
  | some x => .there x.gone x.val
  | none => if cov s.seen d then .over else .unseen
theorem rise_uniq {l : List Sb} (h : Rise l) {x y : Sb} (hx : x ∈ l) (hy : y ∈ l) (he : x.dot = y.dot) : x = y := by
  induction l with
  | nil => cases hx
  | cons z l ih =>
    have hz := List.pairwise_cons.1 h
    rcases List.mem_cons.1 hx with e1 | h1 <;> rcases List.mem_cons.1 hy with e2 | h2
    · rw [e1, e2]
    · exact absurd (hz.1 _ h2) (by rw [← e1, he]; exact ah_irrefl _)
    · exact absurd (hz.1 _ h1) (by rw [← e2, he]; exact ah_irrefl _)
    · exact ih hz.2 h1 h2
theorem says_mem {s : St} (h : Rise s.sibs) {x : Sb} (hx : x ∈ s.sibs) : says s x.dot = .there x.gone x.val := by
  unfold says
  cases hf : s.sibs.find? (fun y => decide (y.dot = x.dot)) with
  | none => exact absurd (List.find?_eq_none.1 hf x hx) (by simp)
  | some y =>
    have h1 := List.mem_of_find?_eq_some hf
    have h2 := List.find?_some hf
    have : y = x := rise_uniq h h1 hx (by simpa using h2)
    rw [this]
theorem says_not {s : St} {d : Nat × Nat} (h : ∀ x ∈ s.sibs, x.dot ≠ d) : says s d = if cov s.seen d then .over else .unseen := by
  unfold says
  rw [List.find?_eq_none.2 fun x hx => by simp [h x hx]]
theorem says_there {s : St} {d : Nat × Nat} {g : Bool} {v : ByteArray} (h : says s d = .there g v) : ⟨d.1, d.2, g, v⟩ ∈ s.sibs := by
  unfold says at h
  cases hf : s.sibs.find? (fun y => decide (y.dot = d)) with
  | none => rw [hf] at h; simp only at h; split at h <;> cases h
  | some y =>
    rw [hf] at h
    simp only [Say.there.injEq] at h
    have h1 := List.mem_of_find?_eq_some hf
    have h2 := List.find?_some hf
    simp only [decide_eq_true_eq] at h2
    have : (⟨d.1, d.2, g, v⟩ : Sb) = y := by rw [← h2]; exact Sb.ext' rfl rfl h.1.symm h.2.symm
    rw [this]; exact h1
theorem says_cases (s : St) (d : Nat × Nat) : (∃ x ∈ s.sibs, x.dot = d) ∨ (∀ x ∈ s.sibs, x.dot ≠ d) := by
  by_cases h : ∃ x ∈ s.sibs, x.dot = d
  · exact .inl h
  · exact .inr fun x hx e => h ⟨x, hx, e⟩
theorem SV.says_unseen {s : St} (h : SV s) (d : Nat × Nat) : says s d = .unseen ↔ ¬ cov s.seen d := by
  rcases says_cases s d with ⟨x, hx, rfl⟩ | hn
  · rw [says_mem h.up hx]
    exact ⟨fun h => (by cases h), fun hc => absurd (h.cvd x hx) hc⟩
  · rw [says_not hn]
    by_cases hc : cov s.seen d
    · rw [if_pos hc]; exact ⟨fun h => (by cases h), fun h => absurd hc h⟩
    · rw [if_neg hc]; exact ⟨fun _ => hc, fun _ => rfl⟩
/-- two rising lists with the same siblings are one -/
theorem rise_ext {l m : List Sb} (hl : Rise l) (hm : Rise m) (h : ∀ x, x ∈ l ↔ x ∈ m) : l = m := by
  induction l generalizing m with
  | nil =>
    cases m with
    | nil => rfl
    | cons y m => exact absurd ((h y).2 (List.mem_cons_self ..)) (by simp)
  | cons x l ih =>
    cases m with
    | nil => exact absurd ((h x).1 (List.mem_cons_self ..)) (by simp)
    | cons y m =>
      have hx := List.pairwise_cons.1 hl
      have hy := List.pairwise_cons.1 hm
      have e : x = y := by
        rcases List.mem_cons.1 ((h x).1 (List.mem_cons_self ..)) with e | h1
        · exact e
        · rcases List.mem_cons.1 ((h y).2 (List.mem_cons_self ..)) with e | h2
          · exact e.symm
          · exact absurd (hx.1 _ h2) (ah_asymm (hy.1 _ h1))
      subst e
      rw [ih hx.2 hy.2 fun z => ?_]
      constructor
      · intro hz
        rcases List.mem_cons.1 ((h z).1 (List.mem_cons_of_mem _ hz)) with rfl | h1
        · exact absurd (hx.1 _ hz) (ah_irrefl _)
        · exact h1
      · intro hz
        rcases List.mem_cons.1 ((h z).2 (List.mem_cons_of_mem _ hz)) with rfl | h1
        · exact absurd (hy.1 _ hz) (ah_irrefl _)
        · exact h1
/-- two states that say the same of each dot are one -/
theorem SV.ext {s t : St} (hs : SV s) (ht : SV t) (h : ∀ d, says s d = says t d) : s = t := by
  have e1 : s.seen = t.seen := by
    refine V.ext hs.vec ht.vec fun a => ?_
    have key : ∀ k, cov s.seen (a, k) ↔ cov t.seen (a, k) := fun k => by
      have h1 := hs.says_unseen (a, k)
      have h2 := ht.says_unseen (a, k)
      rw [h] at h1
      by_cases hc : cov s.seen (a, k) <;> by_cases hd : cov t.seen (a, k)
      · exact ⟨fun _ => hd, fun _ => hc⟩
      · exact absurd (h2.2 hd) (fun h3 => h1.1 h3 hc)
      · exact absurd (h1.2 hc) (fun h3 => h2.1 h3 hd)
      · exact ⟨fun x => absurd x hc, fun x => absurd x hd⟩
    have k1 := key (V.cnt s.seen a)
    have k2 := key (V.cnt t.seen a)
    simp only [cov] at k1 k2
    omega
  have e2 : s.sibs = t.sibs := by
    refine rise_ext hs.up ht.up fun x => ?_
    constructor
    · intro hx
      have := says_mem hs.up hx
      rw [h] at this
      exact says_there this
    · intro hx
      have := says_mem ht.up hx
      rw [← h] at this
      exact says_there this
  cases s; cases t; simp_all
end Go.Proofs.Ytbahfpcfjhifbaa
