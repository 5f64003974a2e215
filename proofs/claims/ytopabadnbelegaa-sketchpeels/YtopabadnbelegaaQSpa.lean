/- Sketches: what peeling keeps; rises; From. -/
import Derived.Test.YtopabadnbelegaaQSkq
import Derived.Test.YtopabadnbelegaaQSon
import Derived.Laws.CopyOwn
namespace Go.Proofs.Ytopabadnbelegaa.K
open Go.RowKit Go.Lib
open Go.Proofs.Ytopabadnbelegaa.S (Rec)
/-- items taken away, one behind the other -/
def takes : List Ce → List BV → List Ce
  | l, [] => l
  | l, y :: ys => takes (layB l y (-1)) ys
theorem takes_nil (l : List Ce) : takes l [] = l := by rw [takes]
theorem takes_cons (l : List Ce) (y : BV) (ys : List BV) : takes l (y :: ys) = takes (layB l y (-1)) ys := by rw [takes]
theorem takes_snoc (l : List Ce) (ys : List BV) (y : BV) : takes l (ys ++ [y]) = layB (takes l ys) y (-1) := by
  induction ys generalizing l with
  | nil => rw [List.nil_append, takes_cons, takes_nil, takes_nil]
  | cons z ys ih => rw [List.cons_append, takes_cons, takes_cons, ih]
theorem takes_lay (l : List Ce) (ys : List BV) (x : BV) (c : BitVec 16) : layB (takes l ys) x c = takes (layB l x c) ys := by
  induction ys generalizing l with
  | nil => rw [takes_nil, takes_nil]
  | cons y ys ih => rw [takes_cons, takes_cons, ih, lay_comm]
theorem takes_len (l : List Ce) (ys : List BV) : (takes l ys).length = l.length := by
  induction ys generalizing l with
  | nil => rw [takes_nil]
  | cons y ys ih => rw [takes_cons, ih, layB_len]
theorem takes_take (l : List Ce) (ys : List BV) (i : Nat) (hi : i < ys.length) : takes l (ys.take (i + 1)) = layB (takes l (ys.take i)) ys[i] (-1) := by
  rw [List.take_succ_eq_append_getElem hi, takes_snoc]
theorem lay_inj {l m : List Ce} {x : BV} {c : BitVec 16} (h : layB l x c = layB m x c) : l = m := by
  rw [← lay_back l x c, h, lay_back]
theorem adds_inj {l m : List Ce} {ys : List BV} (h : adds l ys = adds m ys) : l = m := by
  induction ys generalizing l m with
  | nil => rwa [adds_nil, adds_nil] at h
  | cons y ys ih => rw [adds_cons, adds_cons] at h; exact lay_inj (ih h)
theorem takes_inj {l m : List Ce} {ys : List BV} (h : takes l ys = takes m ys) : l = m := by
  induction ys generalizing l m with
  | nil => rwa [takes_nil, takes_nil] at h
  | cons y ys ih => rw [takes_cons, takes_cons] at h; exact lay_inj (ih h)
theorem adds_perm {xs ys : List BV} (h : xs.Perm ys) : ∀ l : List Ce, adds l xs = adds l ys := by
  induction h with
  | nil => exact fun _ => rfl
  | cons x _ ih => intro l; rw [adds_cons, adds_cons, ih]
  | swap x y l => intro l; rw [adds_cons, adds_cons, adds_cons, adds_cons, lay_comm]
  | trans _ _ h1 h2 => intro l; rw [h1, h2]
theorem takes_perm {xs ys : List BV} (h : xs.Perm ys) : ∀ l : List Ce, takes l xs = takes l ys := by
  induction h with
  | nil => exact fun _ => rfl
  | cons x _ ih => intro l; rw [takes_cons, takes_cons, ih]
  | swap x y l => intro l; rw [takes_cons, takes_cons, takes_cons, takes_cons, lay_comm]
  | trans _ _ h1 h2 => intro l; rw [h1, h2]
theorem srtB_perm (m : List BV) : (srtB m).Perm m := by unfold srtB; exact List.mergeSort_perm _ _
theorem srtB_rise (m : List BV) (i : Nat) (h : i + 1 < (srtB m).length) : (srtB m)[i].toNat ≤ (srtB m)[i + 1].toNat := by
  have hp : (srtB m).Pairwise (fun a b => decide (a.toNat ≤ b.toNat) = true) := by
    unfold srtB
    refine List.pairwise_mergeSort (fun a b c h1 h2 => ?_) (fun a b => ?_) m
    · rw [decide_eq_true_eq] at *; omega
    · rw [Bool.or_eq_true, decide_eq_true_eq, decide_eq_true_eq]; omega
  have := List.pairwise_iff_getElem.1 hp i (i + 1) (by omega) h (by omega)
  rwa [decide_eq_true_eq] at this
theorem pure_c {n i : Nat} {a : Ce} (h : pureC n i a = true) : a.c = 1 ∨ a.c = -1 := by
  unfold pureC at h
  rw [decide_eq_true_eq] at h
  exact h.1
theorem peel_keep : ∀ (f : Nat) (M L : List BV) (l : List Ce), takes (adds (peelN f M L l).2.2 (peelN f M L l).1) (peelN f M L l).2.1 = takes (adds l M) L ∧ (peelN f M L l).1.length + (peelN f M L l).2.1.length ≤ f + M.length + L.length
  | 0, M, L, l => ⟨rfl, by show M.length + L.length ≤ _; omega⟩
  | f + 1, M, L, l => by
    rcases firI_cases l with h | ⟨i, hi, h, hp⟩
    · rw [peelN_stop h]
      exact ⟨rfl, by show M.length + L.length ≤ _; omega⟩
    · have hc := pure_c hp
      by_cases h0 : 0 < l[i].c.toInt
      · have h1 : l[i].c = 1 := by
          rcases hc with e | e
          · exact e
          · rw [e] at h0; exact absurd h0 (by decide)
        rw [peelN_more hi h h0, h1]
        have := peel_keep f (M ++ [l[i].x]) L (layB l l[i].x (-1))
        rw [adds_snoc, adds_lay] at this
        have e2 : layB (layB l l[i].x (-1)) l[i].x 1 = l := lay_back l l[i].x (-1)
        rw [e2, List.length_append] at this
        exact ⟨this.1, by have := this.2; simp only [List.length_cons, List.length_nil] at this; omega⟩
      · have h1 : l[i].c = -1 := by
          rcases hc with e | e
          · rw [e] at h0; exact absurd (by decide) h0
          · exact e
        rw [peelN_less hi h h0, h1]
        have := peel_keep f M (L ++ [l[i].x]) (layB l l[i].x (- -1))
        rw [takes_snoc, takes_lay, adds_lay] at this
        have e2 : layB (layB l l[i].x (- -1)) l[i].x (-1) = l := lay_back l l[i].x 1
        rw [e2, List.length_append] at this
        exact ⟨this.1, by have := this.2; simp only [List.length_cons, List.length_nil] at this; omega⟩
theorem peel_cur_len : ∀ (f : Nat) (M L : List BV) (l : List Ce), (peelN f M L l).2.2.length = l.length
  | 0, M, L, l => rfl
  | f + 1, M, L, l => by
    rcases firI_cases l with h | ⟨i, hi, h, hp⟩
    · rw [peelN_stop h]
    · by_cases h0 : 0 < l[i].c.toInt
      · rw [peelN_more hi h h0, peel_cur_len f, layB_len]
      · rw [peelN_less hi h h0, peel_cur_len f, layB_len]
/-- told whole just if a new sketch to which it is done has these cells -/
theorem peel_whole {l cur : List Ce} {M L : List BV} (h : peelN l.length [] [] l = (M, L, cur)) : decide (cur = zerL cur.length) = decide (takes (adds (zerL l.length) (srtB M)) (srtB L) = l) := by
  have h1 := (peel_keep l.length [] [] l).1
  have h2 := peel_cur_len l.length [] [] l
  rw [h] at h1 h2
  dsimp only at h1 h2
  rw [adds_nil, takes_nil] at h1
  rw [adds_perm (srtB_perm M), takes_perm (srtB_perm L), h2]
  refine decide_eq_decide.2 ⟨fun e => ?_, fun e => ?_⟩
  · rw [← e]; exact h1
  · exact (adds_inj (takes_inj (e.trans h1.symm))).symm
theorem peel_few {l cur : List Ce} {M L : List BV} (h : peelN l.length [] [] l = (M, L, cur)) : M.length + L.length ≤ l.length := by
  have h1 := (peel_keep l.length [] [] l).2
  rw [h] at h1
  simpa using h1
end Go.Proofs.Ytopabadnbelegaa.K
