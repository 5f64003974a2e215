/- The document's tokens: Why, under, Cancel. -/
import Derived.Test.YtajbkgcgmkkpiaaCnr
namespace Go.Proofs.Ytajbkgcgmkkpiaa.C
open Go.RowKit Go.Lib
/-- the document's list of the tokens -/
def refF (up : Nat → Nat) (y : Nat → Int) (n : Nat) : List (Int × Int) := (List.range n).map (fun j => ((up j : Int) - 1, y j))
theorem refF_len (up : Nat → Nat) (y : Nat → Int) (n : Nat) : (refF up y n).length = n := by simp [refF]
theorem refF_get (up : Nat → Nat) (y : Nat → Int) (n j : Nat) (h : j < (refF up y n).length) : (refF up y n)[j] = ((up j : Int) - 1, y j) := by simp [refF]
theorem refF_congr {up up' : Nat → Nat} {y y' : Nat → Int} {n : Nat} (h1 : ∀ j, j < n → up' j = up j) (h2 : ∀ j, j < n → y' j = y j) : refF up' y' n = refF up y n :=
  List.map_congr_left fun j hj => by rw [h1 j (List.mem_range.1 hj), h2 j (List.mem_range.1 hj)]
theorem refF_more (up : Nat → Nat) (y : Nat → Int) (n : Nat) : refF up y (n + 1) = refF up y n ++ [((up n : Int) - 1, y n)] := by simp [refF, List.range_succ]
/-- what is no row of the document's tokens lies as it lay -/
structure Rt (B : Nat) (W W' : World) : Prop where
  os : W'.os = W.os
  tape : W'.tape = W.tape
  output : W'.output = W.output
  size : W.heap.size ≤ W'.heap.size
  low : ∀ b, b < B → W'.heap[b]? = W.heap[b]?
  oth : ∀ (b : Nat) (o : Obj), W.heap[b]? = some o → (∀ (c : Array Value) (f : Nat × Nat), o ≠ .cells c 112 f) → W'.heap[b]? = some o
theorem Rt.refl (B : Nat) (W : World) : Rt B W W := ⟨rfl, rfl, rfl, Nat.le_refl _, fun _ _ => rfl, fun _ _ h _ => h⟩
theorem Rt.trans {B : Nat} {U V W : World} (h : Rt B U V) (k : Rt B V W) : Rt B U W := ⟨k.os.trans h.os, k.tape.trans h.tape, k.output.trans h.output, Nat.le_trans h.size k.size, fun b hb => (k.low b hb).trans (h.low b hb), fun b o hb hn => k.oth b o (h.oth b o hb hn) hn⟩
theorem Rt.below {B : Nat} {U W : World} (h : Rt B U W) : Below B U W := ⟨h.os, h.tape, h.output, h.size, h.low⟩
theorem Rt.cell {B : Nat} {w : World} {g : Nat} {cs : Array Value} (hg : w.heap[g]? = some (.cells cs 112 (0, 0))) (hB : B ≤ g) (k : Nat) (v : Value) : Rt B w (w.setCell ⟨g, k, none⟩ v) :=
  ⟨rfl, rfl, rfl, by simp [World.setCell], fun b hb => hcOther (by omega), fun b o hb hno => (hcOther (fun e => by rw [e, hg] at hb; exact hno _ _ (Option.some.inj hb).symm)).trans hb⟩
theorem own_rt {P : Program} {α : Type} {R : S.Rec P α} {B B' : Nat} {U V : World} {c : Nat} {l : List α} {ao : Option Addr} (h : R.Own U B l ao c) (hr : Rt B' U V) (h1 : R.et ≠ 112) : R.Own V B l ao c := by
  refine S.own_keep h fun g hg => ?_
  rcases h.2 with ⟨hv, _⟩ | ⟨g', cap, cur, hv, _, hh, _⟩
  · rw [hv] at hg; cases hg
  · rw [hv] at hg
    obtain rfl : g' = g := Option.some.inj hg
    exact (hr.oth _ _ hh (by simp [h1])).trans hh.symm
/-- one cell of a row of one's own turned -/
theorem own_upd {P : Program} {α : Type} {R : S.Rec P α} {B g c : Nat} {w : World} {l l' : List α} (h : R.Own w B l (some ⟨g, 0, none⟩) c) (hl : l'.length = l.length) (p : Nat) (v : Value) (hp : p < l.length * R.n)
    (hc : ∀ j, j < l.length * R.n → (R.flat l')[j]? = if j = p then some v else (R.flat l)[j]?) : R.Own (w.setCell ⟨g, p, none⟩ v) B l' (some ⟨g, 0, none⟩) c := by
  obtain ⟨_, h2⟩ := h
  rcases h2 with ⟨hv, _⟩ | ⟨g', cap, cur, hv, hB, hh, hn, hm, hs, ht⟩
  · cases hv
  · simp only [Value.slice.injEq, Option.some.injEq, Addr.mk.injEq] at hv
    obtain ⟨⟨rfl, _, _⟩, _, rfl⟩ := hv
    refine ⟨R.flat_len _, .inr ⟨g, c, _, rfl, hB, hcSame hh p v, by omega, hm, by simpa using hs, ?_⟩⟩
    have hle : l.length * R.n ≤ c * R.n := Nat.mul_le_mul_right _ hn
    rw [hl]
    refine List.ext_getElem? fun j => ?_
    by_cases hj : j < l.length * R.n
    · rw [List.getElem?_take, if_pos hj, hc j hj, Array.getElem?_toList]
      by_cases e : j = p
      · subst e
        rw [if_pos rfl, Array.getElem?_setIfInBounds_self_of_lt (by omega)]
      · rw [if_neg e, Array.getElem?_setIfInBounds_ne (Ne.symm e), ← ht, List.getElem?_take, if_pos hj, Array.getElem?_toList]
    · rw [List.getElem?_take, if_neg hj, List.getElem?_eq_none]
      rw [R.flat_len, hl]; omega
/-- the document's tokens in memory: the slice that lies at ⟨db, 1⟩, and its row -/
structure RD (B : Nat) (w : World) (db : Nat) (up : Nat → Nat) (y : Nat → Int) (n : Nat) (bo : Option Addr) (cb : Nat) : Prop where
  sl : w.cell? ⟨db, 1, none⟩ = some (.slice bo n cb)
  row : RR.Own w B (refF up y n) bo cb
theorem RD.get {B db n cb : Nat} {w : World} {up : Nat → Nat} {y : Nat → Int} {bo : Option Addr} (h : RD B w db up y n bo cb) {j : Nat} (hj : j < n) : ∃ g, bo = some ⟨g, 0, none⟩ ∧ w.cell? ⟨g, j * 2, none⟩ = some (.int .i64 ((up j : Int) - 1)) ∧ w.cell? ⟨g, j * 2 + 1, none⟩ = some (.int .i64 (y j)) := by
  obtain ⟨g, e, hc, _⟩ := own_get h.row (i := j) (by rw [refF_len]; exact hj)
  have h0 := hc 0 _ rfl
  have h1 := hc 1 _ rfl
  rw [refF_get] at h0 h1
  exact ⟨g, e, h0, h1⟩
theorem ixR (g n c j : Nat) (hj : j < n) (w : World) : (Instr.indexAt 29 (.slice (some ⟨g, 0, none⟩) n c) (.int .i64 (j : Int))).run Try.prog w = .ok (.pointer (some ⟨g, j * 2, none⟩)) w := by
  have := RR.ix (P := Try.prog) g 0 n c j hj w
  rw [Nat.zero_add] at this
  exact this
section
variable {B db n cb : Nat} {W : World} {up : Nat → Nat} {y : Nat → Int} {bo : Option Addr}
theorem kRWhyNil (db : Nat) (w : World) : Calls Try.prog 47 #[.pointer (some ⟨db, 1, none⟩), .int .i64 (-1)] w fun e w' => e = .returned (.int .i64 0) ∧ w' = w := by
  go_enter Try.func47, Try.ntmps47
  go_wp2
  go_ret
  exact ⟨rfl, rfl⟩
theorem kRWhy (h : RD B W db up y n bo cb) {j : Nat} (hj : j < n) : Calls Try.prog 47 #[.pointer (some ⟨db, 1, none⟩), .int .i64 (j : Int)] W fun e w' => e = .returned (.int .i64 (y j)) ∧ w' = W := by
  obtain ⟨g, rfl, h0, h1⟩ := h.get hj
  have hs := h.sl
  have hix := fun w => ixR g n cb j hj w
  have hj0 : ¬ (j : Int) < 0 := by omega
  have hjn : (j : Int) < (n : Int) := by omega
  clear h hj
  go_enter Try.func47, Try.ntmps47
  go_wp2
  go_ret
  exact ⟨rfl, rfl⟩
theorem kRUnder (h : RD B W db up y n bo cb) (hu : ∀ j, j < n → up j ≤ j) (hn : n < 6000000000000) (t k : Nat) (hk : k < n) :
    Calls Try.prog 61 #[.pointer (some ⟨db, 1, none⟩), .int .i64 (k : Int), .int .i64 (t : Int)] W fun e w' => e = .returned (.bool (anc up t k)) ∧ w' = W := by
  have HU := hide hu
  have HD := hide h
  have HN := hide hn
  have HK := hide hk
  obtain ⟨r, hr⟩ : ∃ r, r = anc up t k := ⟨_, rfl⟩
  rw [← hr]
  have HR := hide (show abN up (t + 1) (k + 1) = r from hr.symm)
  clear h hu hn hk hr
  go_enter Try.func61, Try.ntmps61
  go_wp2
  go_loopw [1] (fun s1 wr => ∃ j : Nat, j ≤ n ∧ s1 = .int .i64 ((j : Int) - 1) ∧ Hid (abN up (t + 1) j = r) ∧ wr = W) (fun s1 _ => (intOf s1 + 1).toNat)
  case atStart => exact ⟨k + 1, unhide HK, by simp, unhide HR, rfl⟩
  case round =>
    obtain ⟨j, hj, rfl, HJ, rfl⟩ := hrel
    cases j with
    | zero =>
      have hrf : r = false := by rw [← unhide HJ, abN_zero]
      subst hrf
      have hneg : ((0 : Nat) : Int) - 1 = -1 := by omega
      rw [hneg]
      go_wp2
      go_ret
      exact ⟨rfl, rfl⟩
    | succ q =>
      have hpos : ((q + 1 : Nat) : Int) - 1 = (q : Int) := by omega
      rw [hpos]
      obtain ⟨g, rfl, h0, h1⟩ := (unhide HD).get (j := q) (by omega)
      have hs := (unhide HD).sl
      have hix := fun w => ixR g n cb q (by omega) w
      have hq0 : (q : Int) ≥ 0 := by omega
      have hq0' : (0 : Int) ≤ (q : Int) := by omega
      have hqn : (q : Int) < (n : Int) := by omega
      have hst := abN_step (t := t + 1) (k := q) (fun j hj' => unhide HU j (by omega))
      rw [unhide HJ] at hst
      have hui := unhide HU q (by omega)
      have HUI := hide hui
      have HJQ := hide hj
      clear hj HJ hui hpos
      by_cases e : q = t
      · subst e
        have hrt : r = true := by rw [hst]; simp
        subst hrt
        clear hst
        go_wp2
        go_ret
        exact ⟨rfl, rfl⟩
      · have hnt : ¬ (q : Int) = (t : Int) := by omega
        have HE := hide (show abN up (t + 1) (up q) = r by rw [hst]; simp [e])
        clear hst
        go_wp2
        go_roundw
        case rel => exact ⟨up q, by have := unhide HUI; have := unhide HJQ; omega, rfl, unhide HE, trivial⟩
        case measure => have := unhide HUI; simp [intOf]; omega
end
end Go.Proofs.Ytajbkgcgmkkpiaa.C
