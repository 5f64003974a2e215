/- States: what more than one law wants. -/
import Derived.Test.YtkcbljmjhlnjpaaQ15
namespace Go.Proofs.Ytkcbljmjhlnjpaa
open Go.RowKit Go.Lib
def aX : Sb := ⟨1, 1, false, ⟨#[120]⟩⟩
def aA : St := ⟨[(1, 1)], [aX]⟩
theorem aA_ok : SOk aA := by
  refine ⟨⟨(ok_of (by decide) (by decide) (by decide) : V.Ok [(1, 1)]).toVec, List.pairwise_singleton _ _, fun x hx => ?_, fun x hx => ?_⟩, by decide, by decide⟩
  · rw [List.mem_singleton.1 hx]; decide
  · rw [List.mem_singleton.1 hx]; exact (show (1 : Nat) ≤ 40 by decide)
theorem mayB_small (t : ByteArray) (h : t.size ≤ 40) : mayB false t = true := by unfold mayB; simp [h]
theorem wrong_none (t : ByteArray) (h : t.size ≤ 40) : wrongE St.none [] false t = 0 := wrong_zero.2 ⟨none_ok, ok_nil, mayB_small t h⟩
theorem putA : putV St.none [] 1 ⟨#[120]⟩ false = (aA, (1, 1), 0) := by
  have e : putS St.none [] (putX St.none [] 1 ⟨#[120]⟩ false) = aA := by
    unfold putS putX St.none aA aX
    simp [V.mrg, btw, uns, topc, V.cnt, Sb.dot]
  unfold putV
  rw [if_neg (fun h => h (wrong_none _ (by decide))), if_neg (by simp [topc, V.cnt, St.none]), e, if_pos ⟨by decide, by decide⟩]
  simp [topc, V.cnt, St.none]
theorem fit_small {s : St} (h1 : s.seen.all (fun d => Decidable.decide (d.1 < 4294967296 ∧ d.2 < 18446744073709551616)) = true) (h2 : s.sibs.all (fun x => Decidable.decide (x.a < 4294967296 ∧ x.c < 18446744073709551616 ∧ x.val.size ≤ 140737488355328)) = true) : FitT s :=
  ⟨fits_ok h1, fun x hx => by have := List.all_eq_true.1 h2 x hx; exact (by simpa using this : x.a < 4294967296 ∧ x.c < 18446744073709551616 ∧ x.val.size ≤ 140737488355328)⟩
theorem SAt.none (w : World) : SAt w St.none Sv.none := ⟨da_none w, Sa.none w⟩
/-- a state that lies there, with its lengths -/
structure Sx (W : World) (s : St) (v : Sv) (n m : Nat) : Prop where
  sat : SAt W s v
  en : n = s.seen.length
  em : m = s.sibs.length
theorem Sx.below {W W' : World} {s : St} {v : Sv} {n m : Nat} (h : Sx W s v n m) (hb : Below W.heap.size W W') : Sx W' s v n m := ⟨h.sat.below hb, h.en, h.em⟩
theorem Sx.none (W : World) : Sx W St.none Sv.none 0 0 := ⟨SAt.none W, rfl, rfl⟩
/-- .. in a variable -/
structure Lv (W : World) (b : Nat) (s : St) (v : Sv) (n m : Nat) : Prop extends Sx W s v n m where
  box : W.heap[b]? = some (stRow v n m)
theorem Lv.below {W W' : World} {b : Nat} {s : St} {v : Sv} {n m : Nat} (h : Lv W b s v n m) (hb : Below W.heap.size W W') : Lv W' b s v n m := ⟨h.toSx.below hb, box_below h.box hb⟩
theorem Lv.cells {W : World} {b : Nat} {s : St} {v : Sv} {n m : Nat} (h : Lv W b s v n m) : W.cell? ⟨b, 0, none⟩ = some (.slice v.sa n v.sc) ∧ W.cell? ⟨b, 1, none⟩ = some (.slice v.ba m v.bc) := st_cells h.box
section
variable {W0 : World} {a b : St} {v w : Sv} {n m n' m' : Nat}
theorem kvSame (r : Bool) (hr : sameB a b = r) (h1 : Sx W0 a v n m) (h2 : Sx W0 b w n' m') (W : World) (hW : Below W0.heap.size W0 W) : Calls Try.prog 62 #[v.v n m, w.v n' m'] W fun e W' => e = .returned (.bool r) ∧ Below W0.heap.size W0 W' := by
  subst hr
  rw [h1.en, h1.em, h2.en, h2.em]
  exact (dSame a b v w W (h1.sat.below hW) (h2.sat.below hW)).mono fun e W' h => ⟨h.1, hW.trans (h.2.mono hW.size)⟩
theorem kvValid (r : Bool) (hr : sokB a = r) (h1 : Sx W0 a v n m) (W : World) (hW : Below W0.heap.size W0 W) : Calls Try.prog 81 #[v.v n m] W fun e W' => e = .returned (.bool r) ∧ Below W0.heap.size W0 W' := by
  subst hr
  rw [h1.en, h1.em]
  exact (dValid' a v W (h1.sat.below hW)).mono fun e W' h => ⟨h.1, hW.trans (h.2.mono hW.size)⟩
theorem kvJoin (J : St) (r : Int) (hJ : joinV a b = (J, r)) (h1 : Sx W0 a v n m) (h2 : Sx W0 b w n' m') : Calls Try.prog 50 #[v.v n m, w.v n' m'] W0 fun e W' => ∃ x k l, e = .returned (.tuple #[Sv.v x k l, .int .i64 r]) ∧ Sx W' J x k l ∧ Below W0.heap.size W0 W' := by
  rw [h1.en, h1.em, h2.en, h2.em]
  refine (dJoin a b v w W0 h1.sat h2.sat J r hJ).mono ?_
  rintro e W' ⟨x, k, l, h3, h4, h5, h6, h7⟩
  refine ⟨x, k, l, h3, ⟨h6.at ?_ ?_, h4, h5⟩, h7⟩
  · have hJ1 : J = (joinV a b).1 := by rw [hJ]
    rw [hJ1]
    by_cases hab : SOk a ∧ SOk b
    · by_cases hl : (V.mrg a.seen b.seen).length ≤ 64 ∧ (jnS a b).sibs.length ≤ 64
      · rw [join_ok hab.1 hab.2 hl.1 hl.2]; exact fit_jn h1.sat.fit h2.sat.fit
      · rw [join_big hab.1 hab.2 hl]; exact fit_none
    · rw [join_not hab]; exact fit_none
  · have hJ1 : J = (joinV a b).1 := by rw [hJ]
    rw [hJ1]
    by_cases hab : SOk a ∧ SOk b
    · by_cases hl : (V.mrg a.seen b.seen).length ≤ 64 ∧ (jnS a b).sibs.length ≤ 64
      · rw [join_ok hab.1 hab.2 hl.1 hl.2]; exact jnS_ok hab.1 hab.2 hl.1 hl.2
      · rw [join_big hab.1 hab.2 hl]; exact none_ok
    · rw [join_not hab]; exact none_ok
end
theorem join_cases {a b : St} (ha : SOk a) (hb : SOk b) : (joinV a b = (jnS a b, 0) ∧ SOk (jnS a b)) ∨ joinV a b = (St.none, 82) := by
  by_cases hl : (V.mrg a.seen b.seen).length ≤ 64 ∧ (jnS a b).sibs.length ≤ 64
  · exact .inl ⟨join_ok ha hb hl.1 hl.2, jnS_ok ha hb hl.1 hl.2⟩
  · exact .inr (join_big ha hb hl)
theorem join_self {a : St} (ha : SOk a) : joinV a a = (a, 0) := by
  have e := jnS_self ha.toSV
  rw [join_ok ha ha (by have := ha.slen; rw [← e] at this; exact this) (by rw [e]; exact ha.len), e]
theorem join_none {a : St} (ha : SOk a) : joinV a St.none = (a, 0) := by
  have e := jnS_none ha.toSV
  rw [join_ok ha none_ok (by have := ha.slen; rw [← e] at this; exact this) (by rw [e]; exact ha.len), e]
theorem join_comm {a b : St} (ha : SOk a) (hb : SOk b) : joinV b a = joinV a b := by
  by_cases hl : (V.mrg a.seen b.seen).length ≤ 64 ∧ (jnS a b).sibs.length ≤ 64
  · rw [join_ok ha hb hl.1 hl.2, join_ok hb ha (by rw [V.mrg_comm hb.vec ha.vec]; exact hl.1) (by rw [jnS_comm hb.toSV ha.toSV]; exact hl.2), jnS_comm hb.toSV ha.toSV]
  · rw [join_big ha hb hl, join_big hb ha (by rw [V.mrg_comm hb.vec ha.vec, jnS_comm hb.toSV ha.toSV]; exact hl)]
section
variable {W0 : World} {a : St} {v : Sv} {n m : Nat}
theorem kvEncode {t : ByteArray} {r : Int} (he : encT a = (t, r)) (h1 : Sx W0 a v n m) : Calls Try.prog 87 #[v.v n m] W0 fun e W' => e = .returned (.tuple #[.string t, .int .i64 r]) ∧ Below W0.heap.size W0 W' := by
  rw [h1.en, h1.em]
  exact dEncode a v W0 h1.sat t r he
theorem kvDecode {s : ByteArray} {J : St} {r : Int} (hs : s.size ≤ 140737488355328) (hd : decT s = (J, r)) : Calls Try.prog 44 #[.string s] W0 fun e W' => ∃ x k l, e = .returned (.tuple #[Sv.v x k l, .int .i64 r]) ∧ Sx W' J x k l ∧ Below W0.heap.size W0 W' := by
  have hJ : SOk J ∧ FitT J := by
    rcases decT_cases s with ⟨T, h1, h2, h3, -⟩ | h1
    · rw [hd] at h1; obtain ⟨rfl, -⟩ := Prod.mk.inj h1; exact ⟨h2, h3⟩
    · rw [hd] at h1; obtain ⟨rfl, -⟩ := Prod.mk.inj h1; exact ⟨none_ok, fit_none⟩
  refine (dDecode s W0 hs J r hd).mono ?_
  rintro e W' ⟨x, k, l, h3, h4, h5, h6, h7⟩
  exact ⟨x, k, l, h3, ⟨h6.at hJ.2 hJ.1, h4, h5⟩, h7⟩
end
theorem encT_ok {s : St} (h : SOk s) : encT s = (⟨(stB s).toArray⟩, 0) := by unfold encT; rw [if_pos h]
theorem encT_no {s : St} (h : ¬ SOk s) : encT s = (⟨#[]⟩, 110) := by unfold encT; rw [if_neg h]
theorem enc_none : encT St.none = (⟨#[0, 0]⟩, 0) := by rw [encT_ok none_ok, stB_none]
theorem dec_none : decT ⟨#[0, 0]⟩ = (St.none, 0) := by rw [← stB_none]; exact decT_enc none_ok fit_none
end Go.Proofs.Ytkcbljmjhlnjpaa
