/- The join of two states. Of no program. -/
import Derived.Test.YtbahfpcfjhifbaaYa
namespace Go.Proofs.Ytbahfpcfjhifbaa
open Go.RowKit
/-- those that seen does not cover -/
def uns (seen : List (Nat × Nat)) (l : List Sb) : List Sb := l.filter fun x => !decide (cov seen x.dot)
/-- the siblings of the join: A, B are what both have seen -/
def jn (A B : List (Nat × Nat)) : List Sb → List Sb → List Sb
  | [], ys => uns A ys
  | x :: xs, [] => uns B (x :: xs)
  | x :: xs, y :: ys => if x.dot = y.dot then less x y :: jn A B xs ys
    else if ah x.dot y.dot then uns B [x] ++ jn A B xs (y :: ys) else uns A [y] ++ jn A B (x :: xs) ys
termination_by xs ys => xs.length + ys.length
theorem mem_uns {A : List (Nat × Nat)} {l : List Sb} {z : Sb} : z ∈ uns A l ↔ z ∈ l ∧ ¬ cov A z.dot := by
  unfold uns; rw [List.mem_filter]; simp
theorem less_dot {x y : Sb} (h : x.dot = y.dot) : (less x y).dot = x.dot := by
  unfold less; split
  · exact h.symm
  · rfl
theorem less_mem {x y : Sb} : less x y = x ∨ less x y = y := by
  unfold less; split
  · exact .inr rfl
  · exact .inl rfl
theorem mem_jn {A B : List (Nat × Nat)} {xs ys : List Sb} (hx : Rise xs) (hy : Rise ys) (cx : ∀ x ∈ xs, cov A x.dot) (cy : ∀ y ∈ ys, cov B y.dot) (z : Sb) :
    z ∈ jn A B xs ys ↔ (z ∈ xs ∧ ¬ cov B z.dot) ∨ (z ∈ ys ∧ ¬ cov A z.dot) ∨ ∃ x ∈ xs, ∃ y ∈ ys, x.dot = y.dot ∧ z = less x y := by
  induction xs, ys using jn.induct with
  | case1 ys => rw [jn, mem_uns]; simp
  | case2 x xs => rw [jn, mem_uns]; simp
  | case3 x xs y ys h ih =>
    have px := List.pairwise_cons.1 hx
    have py := List.pairwise_cons.1 hy
    rw [jn, if_pos h, List.mem_cons, ih px.2 py.2 (fun w hw => cx w (List.mem_cons_of_mem _ hw)) (fun w hw => cy w (List.mem_cons_of_mem _ hw))]
    have c1 := cx x (List.mem_cons_self ..)
    have c2 := cy y (List.mem_cons_self ..)
    constructor
    · rintro (rfl | ⟨h1, h2⟩ | ⟨h1, h2⟩ | ⟨p, hp, q, hq, e, r⟩)
      · exact .inr (.inr ⟨x, List.mem_cons_self .., y, List.mem_cons_self .., h, rfl⟩)
      · exact .inl ⟨List.mem_cons_of_mem _ h1, h2⟩
      · exact .inr (.inl ⟨List.mem_cons_of_mem _ h1, h2⟩)
      · exact .inr (.inr ⟨p, List.mem_cons_of_mem _ hp, q, List.mem_cons_of_mem _ hq, e, r⟩)
    · rintro (⟨h1, h2⟩ | ⟨h1, h2⟩ | ⟨p, hp, q, hq, e, r⟩)
      · rcases List.mem_cons.1 h1 with rfl | h1
        · exact absurd (h ▸ c2) h2
        · exact .inr (.inl ⟨h1, h2⟩)
      · rcases List.mem_cons.1 h1 with rfl | h1
        · exact absurd (h ▸ c1) h2
        · exact .inr (.inr (.inl ⟨h1, h2⟩))
      · rcases List.mem_cons.1 hp with rfl | hp <;> rcases List.mem_cons.1 hq with rfl | hq
        · exact .inl r
        · exact absurd (py.1 q hq) (by rw [← h, e]; exact ah_irrefl _)
        · exact absurd (px.1 p hp) (by rw [h, e]; exact ah_irrefl _)
        · exact .inr (.inr (.inr ⟨p, hp, q, hq, e, r⟩))
  | case4 x xs y ys h h2 ih =>
    have px := List.pairwise_cons.1 hx
    have py := List.pairwise_cons.1 hy
    rw [jn, if_neg h, if_pos h2, List.mem_append, mem_uns, ih px.2 hy (fun w hw => cx w (List.mem_cons_of_mem _ hw)) cy]
    constructor
    · rintro (⟨h1, h3⟩ | ⟨h1, h3⟩ | ⟨h1, h3⟩ | ⟨p, hp, q, hq, e, r⟩)
      · exact .inl ⟨by rw [List.mem_singleton.1 h1]; exact List.mem_cons_self .., h3⟩
      · exact .inl ⟨List.mem_cons_of_mem _ h1, h3⟩
      · exact .inr (.inl ⟨h1, h3⟩)
      · exact .inr (.inr ⟨p, List.mem_cons_of_mem _ hp, q, hq, e, r⟩)
    · rintro (⟨h1, h3⟩ | ⟨h1, h3⟩ | ⟨p, hp, q, hq, e, r⟩)
      · rcases List.mem_cons.1 h1 with rfl | h1
        · exact .inl ⟨List.mem_singleton.2 rfl, h3⟩
        · exact .inr (.inl ⟨h1, h3⟩)
      · exact .inr (.inr (.inl ⟨h1, h3⟩))
      · rcases List.mem_cons.1 hp with rfl | hp
        · rcases List.mem_cons.1 hq with rfl | hq
          · exact absurd e h
          · exact absurd (ah_trans h2 (py.1 q hq)) (by rw [e]; exact ah_irrefl _)
        · exact .inr (.inr (.inr ⟨p, hp, q, hq, e, r⟩))
  | case5 x xs y ys h h2 ih =>
    have px := List.pairwise_cons.1 hx
    have py := List.pairwise_cons.1 hy
    have h3' := ah_total h2 h
    rw [jn, if_neg h, if_neg h2, List.mem_append, mem_uns, ih hx py.2 cx (fun w hw => cy w (List.mem_cons_of_mem _ hw))]
    constructor
    · rintro (⟨h1, h3⟩ | ⟨h1, h3⟩ | ⟨h1, h3⟩ | ⟨p, hp, q, hq, e, r⟩)
      · exact .inr (.inl ⟨by rw [List.mem_singleton.1 h1]; exact List.mem_cons_self .., h3⟩)
      · exact .inl ⟨h1, h3⟩
      · exact .inr (.inl ⟨List.mem_cons_of_mem _ h1, h3⟩)
      · exact .inr (.inr ⟨p, hp, q, List.mem_cons_of_mem _ hq, e, r⟩)
    · rintro (⟨h1, h3⟩ | ⟨h1, h3⟩ | ⟨p, hp, q, hq, e, r⟩)
      · exact .inr (.inl ⟨h1, h3⟩)
      · rcases List.mem_cons.1 h1 with rfl | h1
        · exact .inl ⟨List.mem_singleton.2 rfl, h3⟩
        · exact .inr (.inr (.inl ⟨h1, h3⟩))
      · rcases List.mem_cons.1 hq with rfl | hq
        · rcases List.mem_cons.1 hp with rfl | hp
          · exact absurd e h
          · exact absurd (ah_trans h3' (px.1 p hp)) (by rw [e]; exact ah_irrefl _)
        · exact .inr (.inr (.inr ⟨p, hp, q, hq, e, r⟩))
theorem jn_from {A B : List (Nat × Nat)} {xs ys : List Sb} : ∀ z ∈ jn A B xs ys, z ∈ xs ∨ z ∈ ys := by
  induction xs, ys using jn.induct with
  | case1 ys => intro z hz; rw [jn, mem_uns] at hz; exact .inr hz.1
  | case2 x xs => intro z hz; rw [jn, mem_uns] at hz; exact .inl hz.1
  | case3 x xs y ys h ih =>
    intro z hz
    rw [jn, if_pos h] at hz
    rcases List.mem_cons.1 hz with rfl | hz
    · rcases less_mem (x := x) (y := y) with e | e <;> rw [e]
      · exact .inl (List.mem_cons_self ..)
      · exact .inr (List.mem_cons_self ..)
    · rcases ih z hz with h | h
      · exact .inl (List.mem_cons_of_mem _ h)
      · exact .inr (List.mem_cons_of_mem _ h)
  | case4 x xs y ys h h2 ih =>
    intro z hz
    rw [jn, if_neg h, if_pos h2, List.mem_append, mem_uns] at hz
    rcases hz with ⟨h1, _⟩ | hz
    · rw [List.mem_singleton.1 h1]; exact .inl (List.mem_cons_self ..)
    · rcases ih z hz with h | h
      · exact .inl (List.mem_cons_of_mem _ h)
      · exact .inr h
  | case5 x xs y ys h h2 ih =>
    intro z hz
    rw [jn, if_neg h, if_neg h2, List.mem_append, mem_uns] at hz
    rcases hz with ⟨h1, _⟩ | hz
    · rw [List.mem_singleton.1 h1]; exact .inr (List.mem_cons_self ..)
    · rcases ih z hz with h | h
      · exact .inl h
      · exact .inr (List.mem_cons_of_mem _ h)
theorem rise_uns {A : List (Nat × Nat)} {l : List Sb} (h : Rise l) : Rise (uns A l) := List.Pairwise.sublist List.filter_sublist h
theorem rise_app {a b : List Sb} (ha : Rise a) (hb : Rise b) (h : ∀ x ∈ a, ∀ y ∈ b, ah x.dot y.dot) : Rise (a ++ b) := List.pairwise_append.2 ⟨ha, hb, h⟩
theorem rise_jn {A B : List (Nat × Nat)} {xs ys : List Sb} (hx : Rise xs) (hy : Rise ys) : Rise (jn A B xs ys) := by
  induction xs, ys using jn.induct with
  | case1 ys => rw [jn]; exact rise_uns hy
  | case2 x xs => rw [jn]; exact rise_uns hx
  | case3 x xs y ys h ih =>
    have px := List.pairwise_cons.1 hx
    have py := List.pairwise_cons.1 hy
    rw [jn, if_pos h]
    refine List.pairwise_cons.2 ⟨fun z hz => ?_, ih px.2 py.2⟩
    rw [less_dot h]
    rcases jn_from z hz with h1 | h1
    · exact px.1 z h1
    · rw [h]; exact py.1 z h1
  | case4 x xs y ys h h2 ih =>
    have px := List.pairwise_cons.1 hx
    have py := List.pairwise_cons.1 hy
    rw [jn, if_neg h, if_pos h2]
    refine rise_app (rise_uns (List.pairwise_singleton _ _)) (ih px.2 hy) fun p hp z hz => ?_
    rw [List.mem_singleton.1 (mem_uns.1 hp).1]
    rcases jn_from z hz with h1 | h1
    · exact px.1 z h1
    · rcases List.mem_cons.1 h1 with rfl | h1
      · exact h2
      · exact ah_trans h2 (py.1 z h1)
  | case5 x xs y ys h h2 ih =>
    have px := List.pairwise_cons.1 hx
    have py := List.pairwise_cons.1 hy
    have h3 := ah_total h2 h
    rw [jn, if_neg h, if_neg h2]
    refine rise_app (rise_uns (List.pairwise_singleton _ _)) (ih hx py.2) fun p hp z hz => ?_
    rw [List.mem_singleton.1 (mem_uns.1 hp).1]
    rcases jn_from z hz with h1 | h1
    · rcases List.mem_cons.1 h1 with rfl | h1
      · exact h3
      · exact ah_trans h3 (px.1 z h1)
    · exact py.1 z h1
theorem uns_len (A : List (Nat × Nat)) (l : List Sb) : (uns A l).length ≤ l.length := List.length_filter_le _ _
theorem jn_len (A B : List (Nat × Nat)) (xs ys : List Sb) : (jn A B xs ys).length ≤ xs.length + ys.length := by
  induction xs, ys using jn.induct with
  | case1 ys => rw [jn]; have := uns_len A ys; simpa using this
  | case2 x xs => rw [jn]; have := uns_len B (x :: xs); simpa using this
  | case3 x xs y ys h ih => rw [jn, if_pos h]; simp at *; omega
  | case4 x xs y ys h h2 ih => rw [jn, if_neg h, if_pos h2]; have := uns_len B [x]; simp at *; omega
  | case5 x xs y ys h h2 ih => rw [jn, if_neg h, if_neg h2]; have := uns_len A [y]; simp at *; omega
/-- the join, however great -/
def jnS (a b : St) : St := ⟨V.mrg a.seen b.seen, jn a.seen b.seen a.sibs b.sibs⟩
theorem cov_mrg {a b : List (Nat × Nat)} (ha : V.Vec a) (hb : V.Vec b) (d : Nat × Nat) : cov (V.mrg a b) d ↔ cov a d ∨ cov b d := by
  unfold cov; rw [V.cnt_mrg ha hb]; omega
theorem cov_jn {a b : St} (ha : SV a) (hb : SV b) (d : Nat × Nat) : cov (jnS a b).seen d ↔ cov a.seen d ∨ cov b.seen d := cov_mrg ha.vec hb.vec d
theorem jnS_sv {a b : St} (ha : SV a) (hb : SV b) : SV (jnS a b) where
  vec := V.mrg_vec ha.vec hb.vec
  up := rise_jn ha.up hb.up
  cvd x hx := by
    rcases jn_from x hx with h | h
    · exact (cov_mrg ha.vec hb.vec _).2 (.inl (ha.cvd x h))
    · exact (cov_mrg ha.vec hb.vec _).2 (.inr (hb.cvd x h))
  may x hx := by
    rcases jn_from x hx with h | h
    · exact ha.may x h
    · exact hb.may x h
theorem later_of {a b : Say} (h : a.le b) : a.later b = b := Say.later_eq_iff.2 h
theorem less_later {x y : Sb} : Say.there (less x y).gone (less x y).val = (Say.there x.gone x.val).later (.there y.gone y.val) := by
  have e : cl y x = ctl y.gone y.val x.gone x.val := rfl
  cases h : ctl y.gone y.val x.gone x.val
  · rw [show less x y = x by unfold less; rw [e, h]; rfl, Say.later_comm, later_of]
    exact h
  · rw [show less x y = y by unfold less; rw [e, h]; rfl, later_of]
    exact ctl_asymm h
/-- of each dot the join says the later one -/
theorem says_jn {a b : St} (ha : SV a) (hb : SV b) (d : Nat × Nat) : says (jnS a b) d = (says a d).later (says b d) := by
  have hj := jnS_sv ha hb
  have hm := mem_jn ha.up hb.up ha.cvd hb.cvd
  rcases says_cases a d with ⟨x, hx, rfl⟩ | hna
  · rw [says_mem ha.up hx]
    rcases says_cases b x.dot with ⟨y, hy, he⟩ | hnb
    · have : less x y ∈ (jnS a b).sibs := (hm _).2 (.inr (.inr ⟨x, hx, y, hy, he.symm, rfl⟩))
      have h2 := says_mem hj.up this
      rw [less_dot he.symm] at h2
      rw [h2, ← he, says_mem hb.up hy, less_later]
    · by_cases hc : cov b.seen x.dot
      · rw [says_not hnb, if_pos hc, Say.later_over]
        rw [says_not (s := jnS a b), if_pos ((cov_jn ha hb _).2 (.inl (ha.cvd x hx)))]
        intro z hz e
        rcases (hm z).1 hz with ⟨_, h2⟩ | ⟨h1, _⟩ | ⟨p, hp, q, hq, e2, r⟩
        · exact h2 (e ▸ hc)
        · exact hnb z h1 e
        · subst r
          rw [less_dot e2] at e
          exact hnb q hq (e2 ▸ e)
      · rw [says_not hnb, if_neg hc, Say.later_unseen]
        exact says_mem hj.up ((hm x).2 (.inl ⟨hx, hc⟩))
  · rw [says_not hna]
    rcases says_cases b d with ⟨y, hy, rfl⟩ | hnb
    · rw [says_mem hb.up hy]
      by_cases hc : cov a.seen y.dot
      · rw [if_pos hc, Say.over_later]
        rw [says_not (s := jnS a b), if_pos ((cov_jn ha hb _).2 (.inl hc))]
        intro z hz e
        rcases (hm z).1 hz with ⟨h1, _⟩ | ⟨_, h2⟩ | ⟨p, hp, q, hq, e2, r⟩
        · exact hna z h1 e
        · exact h2 (e ▸ hc)
        · subst r
          rw [less_dot e2] at e
          exact hna p hp e
      · rw [if_neg hc, Say.unseen_later]
        exact says_mem hj.up ((hm y).2 (.inr (.inl ⟨hy, hc⟩)))
    · rw [says_not hnb, says_not (s := jnS a b)]
      · have := cov_jn ha hb d
        by_cases h1 : cov a.seen d <;> by_cases h2 : cov b.seen d
        · rw [if_pos (this.2 (.inl h1)), if_pos h1, if_pos h2, Say.later_self]
        · rw [if_pos (this.2 (.inl h1)), if_pos h1, if_neg h2, Say.later_unseen]
        · rw [if_pos (this.2 (.inr h2)), if_neg h1, if_pos h2, Say.unseen_later]
        · rw [if_neg (fun h => (this.1 h).elim h1 h2), if_neg h1, if_neg h2, Say.later_self]
      · intro z hz e
        rcases jn_from z hz with h | h
        · exact hna z h e
        · exact hnb z h e
/-- the order -/
def sbel (a b : St) : Prop := ∀ d, (says a d).le (says b d)
theorem jnS_eq_iff {a b : St} (ha : SV a) (hb : SV b) : jnS a b = b ↔ sbel a b := by
  constructor
  · intro h d
    have := says_jn ha hb d
    rw [h] at this
    rw [this]; exact Say.le_later_l _ _
  · intro h
    exact SV.ext (jnS_sv ha hb) hb fun d => by rw [says_jn ha hb, Say.later_eq_iff]; exact h d
theorem jnS_comm {a b : St} (ha : SV a) (hb : SV b) : jnS a b = jnS b a := SV.ext (jnS_sv ha hb) (jnS_sv hb ha) fun d => by rw [says_jn ha hb, says_jn hb ha, Say.later_comm]
theorem jnS_assoc {a b c : St} (ha : SV a) (hb : SV b) (hc : SV c) : jnS (jnS a b) c = jnS a (jnS b c) :=
  SV.ext (jnS_sv (jnS_sv ha hb) hc) (jnS_sv ha (jnS_sv hb hc)) fun d => by rw [says_jn (jnS_sv ha hb) hc, says_jn ha (jnS_sv hb hc), says_jn ha hb, says_jn hb hc, Say.later_assoc]
theorem jnS_self {a : St} (ha : SV a) : jnS a a = a := (jnS_eq_iff ha ha).2 fun _ => Say.le_refl _
theorem sbel_trans {a b c : St} (h1 : sbel a b) (h2 : sbel b c) : sbel a c := fun d => Say.le_trans (h1 d) (h2 d)
theorem sbel_antisymm {a b : St} (ha : SV a) (hb : SV b) (h1 : sbel a b) (h2 : sbel b a) : a = b := SV.ext ha hb fun d => Say.le_antisymm (h1 d) (h2 d)
theorem sbel_jn_l {a b : St} (ha : SV a) (hb : SV b) : sbel a (jnS a b) := fun d => by rw [says_jn ha hb]; exact Say.le_later_l _ _
theorem sbel_jn_r {a b : St} (ha : SV a) (hb : SV b) : sbel b (jnS a b) := fun d => by rw [says_jn ha hb]; exact Say.le_later_r _ _
theorem jn_sbel {a b c : St} (ha : SV a) (hb : SV b) (h1 : sbel a c) (h2 : sbel b c) : sbel (jnS a b) c := fun d => by rw [says_jn ha hb]; exact Say.later_le (h1 d) (h2 d)
/-- what was never there -/
def St.none : St := ⟨[], []⟩
theorem none_ok : SOk St.none := ⟨⟨V.vec_nil, List.Pairwise.nil, fun x hx => (by cases hx), fun x hx => (by cases hx)⟩, Nat.zero_le _, Nat.zero_le _⟩
theorem says_none (d : Nat × Nat) : says St.none d = .unseen := by
  rw [says_not fun x hx => (by cases hx), if_neg]
  unfold cov St.none; simp only [V.cnt]; omega
theorem jnS_none {a : St} (ha : SV a) : jnS a St.none = a := SV.ext (jnS_sv ha none_ok.toSV) ha fun d => by rw [says_jn ha none_ok.toSV, says_none, Say.later_unseen]
open Classical in
/-- what Join answers -/
noncomputable def joinV (a b : St) : St × Int := if sokB a && sokB b then (if (V.mrg a.seen b.seen).length ≤ 64 ∧ (jnS a b).sibs.length ≤ 64 then (jnS a b, 0) else (St.none, 82)) else (St.none, 110)
open Classical in
/-- what Below answers -/
noncomputable def sbelB (a b : St) : Bool := decide (SOk a ∧ SOk b ∧ sbel a b)
end Go.Proofs.Ytbahfpcfjhifbaa
