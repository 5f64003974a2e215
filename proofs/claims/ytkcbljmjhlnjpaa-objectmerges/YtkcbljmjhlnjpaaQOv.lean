/- ObjectMerges: mathematics, and Merge with what it owns. -/
import Derived.Test.YtkcbljmjhlnjpaaQOs
namespace Go.Proofs.Ytkcbljmjhlnjpaa
open Go.RowKit Go.Lib
theorem made_ok {k : ByteArray} {s : St} {e : Int} {J : Ot} (h : madeV k s e = (J, 0)) : e = 0 ∧ ckE ⟨k, s⟩ = 0 ∧ J = ⟨k, s⟩ := by
  by_cases he : e = 0
  · subst he
    by_cases hc : ckE ⟨k, s⟩ = 0
    · rw [made_zero hc] at h; exact ⟨rfl, hc, (Prod.mk.inj h).1.symm⟩
    · rw [made_big hc] at h; exact absurd (Prod.mk.inj h).2 hc
  · rw [made_no he] at h; exact absurd (Prod.mk.inj h).2 he
theorem merge_ok {a b J : Ot} (h : mergeV a b = (J, 0)) : ckE a = 0 ∧ ckE b = 0 ∧ a.key = b.key ∧ joinV a.st b.st = (J.st, 0) ∧ J.key = a.key ∧ ckE J = 0 := by
  unfold mergeV at h
  by_cases ha : ckE a = 0
  · rw [if_pos ha] at h
    by_cases hb : ckE b = 0
    · rw [if_pos hb] at h
      by_cases hk : a.key = b.key
      · rw [if_pos hk] at h
        obtain ⟨h1, h2, rfl⟩ := made_ok h
        exact ⟨ha, hb, hk, Prod.ext rfl h1, rfl, h2⟩
      · rw [if_neg hk] at h; exact absurd (Prod.mk.inj h).2 (by decide)
    · rw [if_neg hb] at h; exact absurd (Prod.mk.inj h).2 hb
  · rw [if_neg ha] at h; exact absurd (Prod.mk.inj h).2 ha
theorem merge_mk {a b : Ot} {S : St} (ha : ckE a = 0) (hb : ckE b = 0) (hk : a.key = b.key) (hj : joinV a.st b.st = (S, 0)) (hc : ckE ⟨a.key, S⟩ = 0) : mergeV a b = (⟨a.key, S⟩, 0) := by
  unfold mergeV
  rw [if_pos ha, if_pos hb, if_pos hk, hj]
  exact made_zero hc
theorem ot_eta (J : Ot) {k : ByteArray} (h : J.key = k) : (⟨k, J.st⟩ : Ot) = J := by subst h; rfl
theorem merge_comm {a b J : Ot} (h : mergeV a b = (J, 0)) : mergeV b a = (J, 0) := by
  obtain ⟨ha, hb, hk, hj, hJ, hc⟩ := merge_ok h
  have e := ot_eta J (hJ.trans hk)
  have hm := merge_mk (a := b) (b := a) (S := J.st) hb ha hk.symm (by rw [join_comm (ck_zero.1 ha).2.1 (ck_zero.1 hb).2.1]; exact hj) (by rw [e]; exact hc)
  rw [hm, e]
theorem merge_fit {a b : Ot} (fa : FitT a.st) (fb : FitT b.st) : SOk (mergeV a b).1.st ∧ FitT (mergeV a b).1.st := by
  obtain ⟨⟨J, r⟩, h⟩ : ∃ p, mergeV a b = p := ⟨_, rfl⟩
  by_cases hr : r = 0
  · subst hr
    obtain ⟨ha, hb, hk, hj, hJ, hc⟩ := merge_ok h
    rw [h]
    have := join_fit fa fb
    rw [hj] at this
    exact ⟨(ck_zero.1 hc).2.1, this⟩
  · have hn : J = Ot.none := by
      unfold mergeV madeV at h
      repeat' split at h
      all_goals first | (have := (Prod.mk.inj h).2; exact absurd this.symm hr) | exact (Prod.mk.inj h).1.symm
    rw [h, hn]
    exact ⟨none_ok, fit_none⟩
theorem join_is {a b J : St} (ha : SOk a) (hb : SOk b) (h : joinV a b = (J, 0)) : J = jnS a b := by
  rcases join_cases ha hb with ⟨h1, -⟩ | h1
  · rw [h1] at h; exact (Prod.mk.inj h).1.symm
  · rw [h1] at h; exact absurd (Prod.mk.inj h).2 (by decide)
theorem merge_len {a b J : Ot} (h : mergeV a b = (J, 0)) : a.st.seen.length ≤ J.st.seen.length ∧ b.st.seen.length ≤ J.st.seen.length := by
  obtain ⟨ha, hb, -, hj, -, -⟩ := merge_ok h
  rw [join_is (ck_zero.1 ha).2.1 (ck_zero.1 hb).2.1 hj]
  exact V.len_mrg_ge a.st.seen b.st.seen
theorem merge_self (a : Ot) : (ckE a = 0 ∧ mergeV a a = (a, 0)) ∨ (ckE a ≠ 0 ∧ mergeV a a = (Ot.none, ckE a)) := by
  by_cases h : ckE a = 0
  · exact .inl ⟨h, merge_mk h h rfl (join_self (ck_zero.1 h).2.1) h⟩
  · exact .inr ⟨h, by unfold mergeV; rw [if_neg h]⟩
theorem merge_none (a : Ot) : (ckE a = 0 ∧ mergeV a ⟨a.key, St.none⟩ = (a, 0)) ∨ (ckE a ≠ 0 ∧ mergeV a ⟨a.key, St.none⟩ = (Ot.none, ckE a)) := by
  by_cases h : ckE a = 0
  · exact .inl ⟨h, merge_mk (b := ⟨a.key, St.none⟩) h (ck_zero.2 ⟨(ck_zero.1 h).1, none_ok, by show (stB St.none).length ≤ 280; decide⟩) rfl (join_none (ck_zero.1 h).2.1) h⟩
  · exact .inr ⟨h, by unfold mergeV; rw [if_neg h]⟩
theorem merge_assoc {a b c A B X Y : Ot} (h1 : mergeV a b = (A, 0)) (h2 : mergeV b c = (B, 0)) (h3 : mergeV A c = (X, 0)) (h4 : mergeV a B = (Y, 0)) : X = Y := by
  obtain ⟨ca, cb, hk1, hj1, hJ1, cA⟩ := merge_ok h1
  obtain ⟨-, cc, hk2, hj2, hJ2, cB⟩ := merge_ok h2
  obtain ⟨-, -, hk3, hj3, hJ3, -⟩ := merge_ok h3
  obtain ⟨-, -, hk4, hj4, hJ4, -⟩ := merge_ok h4
  have sa := (ck_zero.1 ca).2.1
  have sb := (ck_zero.1 cb).2.1
  have sc := (ck_zero.1 cc).2.1
  have e1 := join_is sa sb hj1
  have e2 := join_is sb sc hj2
  have e3 := join_is (ck_zero.1 cA).2.1 sc hj3
  have e4 := join_is sa (ck_zero.1 cB).2.1 hj4
  rw [e1] at e3
  rw [e2] at e4
  have e5 : X.st = Y.st := by rw [e3, e4]; exact jnS_assoc sa.toSV sb.toSV sc.toSV
  obtain ⟨kx, sx⟩ := X
  obtain ⟨ky, sy⟩ := Y
  simp only at hJ3 hJ4 e5
  rw [hJ3, hJ1, hJ4, e5]
/-- what Merge leaves -/
structure Mo (w : World) (B : Nat) (J : Ot) (x : Sv) (k l : Nat) : Prop where
  ek : k = J.st.seen.length
  el : l = J.st.sibs.length
  own : OwnT w B J.st x
theorem Mo.below {w w' : World} {B : Nat} {J : Ot} {x : Sv} {k l : Nat} (h : Mo w B J x k l) (hb : Below w.heap.size w w') : Mo w' B J x k l := ⟨h.ek, h.el, h.own.below hb⟩
theorem kMerge {u : World} {a b : Ot} {va vb : Sv} {n m n' m' : Nat} (ha : Sx u a.st va n m) (hb : Sx u b.st vb n' m') {J : Ot} {r : Int} (hJ : mergeV a b = (J, r)) :
    Calls Try.prog 22 #[obV a.key va n m, obV b.key vb n' m'] u fun e u' => ∃ v, e = .returned v ∧ ∃ x k l, v = .tuple #[obV J.key x k l, .int .i64 r] ∧ Mo u' u.heap.size J x k l ∧ Below u.heap.size u u' := by
  refine (oMerge ha hb J r hJ).mono ?_
  rintro e u' ⟨x, k, l, h1, h2, h3, h4, h5⟩
  exact ⟨_, h1, x, k, l, rfl, ⟨h2, h3, h4⟩, h5⟩
theorem heap_lt {w : World} {k : Nat} {o : Obj} (h : w.heap[k]? = some o) : k < w.heap.size := (Array.getElem?_eq_some_iff.1 h).1
theorem entMg : ∀ args (w : World), (callFunc 22 args).run Try.prog w = .ok (.enter 22 args) w := by
  intro args w
  go_simp
end Go.Proofs.Ytkcbljmjhlnjpaa
