/- CancelPlays: the document's side by the number of the token; the desk's tokens. -/
import Derived.Test.YtajbkgcgmkkpiaaCnx
namespace Go.Proofs.Ytajbkgcgmkkpiaa.C
open Go.RowKit Go.Lib
section
variable {B db n cb : Nat} {W : World} {up : Nat → Nat} {Z : Nat → Dy} {bo : Option Addr}
def yZ (Z : Nat → Dy) : Nat → Int := fun j => (Z j).why
theorem RD.congr {y y' : Nat → Int} (h : RD B W db up y n bo cb) (e : ∀ j, j < n → y' j = y j) : RD B W db up y' n bo cb :=
  ⟨h.sl, by rw [refF_congr (fun _ _ => rfl) e]; exact h.row⟩
theorem cast0 : ((0 : Nat) : Int) - 1 = -1 := by omega
theorem castS (k : Nat) : ((k + 1 : Nat) : Int) - 1 = (k : Int) := by omega
theorem kRWhyN (h : RD B W db up (yZ Z) n bo cb) {k : Nat} (hk : k ≤ n) : Calls Try.prog 47 #[.pointer (some ⟨db, 1, none⟩), .int .i64 ((k : Int) - 1)] W fun e w' => e = .returned (.int .i64 (whyN Z k)) ∧ w' = W := by
  cases k with
  | zero => rw [cast0]; exact kRWhyNil db W
  | succ k => rw [castS]; exact kRWhy h (by omega)
theorem kRNewN (h : RD B W db up (yZ Z) n bo cb) (hn : n < 6000000000000) (hB : B ≤ W.heap.size) (dv : Value) (dk : W.heap[db]? = some (.cells #[dv, .slice bo n cb] 33 (0, 0))) {k : Nat} (hk : k ≤ n) :
    Calls Try.prog 44 #[.pointer (some ⟨db, 1, none⟩), .int .i64 ((k : Int) - 1)] W fun e w' => (∃ v, e = .returned v) ∧ RNew B W w' db n (refF up (yZ Z) n ++ [((k : Int) - 1, whyN Z k)]) := by
  cases k with
  | zero => rw [cast0]; exact kRNew0 h hn hB dv dk
  | succ k => rw [castS]; exact kRNew1 h hn hB dv dk (by omega)
theorem kRCanN (h : RD B W db up (yZ Z) n bo cb) (hu : ∀ j, j < n → up j ≤ j) (hn : n < 6000000000000) {k : Nat} (hk : k ≤ n) (why : Int) (dk : ∃ c t f, W.heap[db]? = some (.cells c t f) ∧ t ≠ 112) :
    Calls Try.prog 46 #[.pointer (some ⟨db, 1, none⟩), .int .i64 ((k : Int) - 1), .int .i64 why] W fun e w' => e = .returned (.bool (decide (k ≠ 0 ∧ whyN Z k = 0))) ∧
      RD B w' db up (fun j => if k ≠ 0 ∧ whyN Z k = 0 ∧ (Z j).why = 0 ∧ abN up k (j + 1) = true then wy why else (Z j).why) n bo cb ∧ Rt B W w' := by
  cases k with
  | zero =>
    rw [cast0]
    refine (kRCanNil db why W).mono fun e w' ⟨h1, h2⟩ => ⟨by rw [h1]; simp, ?_, by rw [h2]; exact Rt.refl _ _⟩
    rw [h2]
    exact h.congr fun j _ => if_neg (fun q => q.1 rfl)
  | succ i =>
    rw [castS]
    by_cases hl : (Z i).why = 0
    · refine (kRCan h hu hn (i := i) (by omega) hl why dk).mono fun e w' ⟨h1, h2, h3⟩ => ⟨by rw [h1]; simp [whyN, hl], ?_, h3⟩
      refine h2.congr fun j hj => ?_
      show _ = yC up (yZ Z) i n (wy why) j
      unfold yC
      by_cases q : (Z j).why = 0 ∧ anc up i j = true
      · rw [if_pos ⟨by omega, hl, q.1, q.2⟩, if_pos ⟨hj, q.1, q.2⟩]
      · rw [if_neg (fun r => q ⟨r.2.2.1, r.2.2.2⟩), if_neg (fun r => q ⟨r.2.1, r.2.2⟩)]; rfl
    · refine (kRCanDead h (i := i) (by omega) hl why).mono fun e w' ⟨h1, h2⟩ => ⟨by rw [h1]; simp [whyN, hl], ?_, by rw [h2]; exact Rt.refl _ _⟩
      rw [h2]
      exact h.congr fun j _ => if_neg (fun q => hl q.2.1)
end
/-- the desk at the head of a step -/
def DS (W wr : World) (db n : Nat) : Prop := ∃ (G : Geo) (Z : Nat → Dy) (ao bo : Option Addr) (ca cb : Nat), DM W wr db G Z n (allL G n) (n + 1) (refF G.up (yZ Z) n) n ao bo ca cb
section
variable {W wr w' : World} {db n na ne ca cb : Nat} {G : Geo} {Z : Nat → Dy} {A : List (Option Nat)} {E : List (Int × Int)} {ao bo : Option Addr}
theorem DM.rd (h : DM W wr db G Z n A na (refF G.up (yZ Z) ne) ne ao bo ca cb) : RD W.heap.size wr db G.up (yZ Z) ne bo cb := ⟨(S.box2 h.dk).2, h.rf⟩
theorem DM.tok {m : Nat} (h : DM W wr db G Z n (allL G m) na E ne ao bo ca cb) {k : Nat} (hk : k ≤ m) : ∃ ga, ao = some ⟨ga, 0, none⟩ ∧ wr.cell? ⟨ga, k, none⟩ = some (tkP G k) := by
  obtain ⟨ga, e, hca, _⟩ := own_get h.al (i := k) (by rw [allL_len]; omega)
  have hc0 := hca 0 _ rfl
  rw [allL_get] at hc0
  refine ⟨ga, e, ?_⟩
  have e : k * TR.n + 0 = k := by show k * 1 + 0 = k; omega
  rw [e] at hc0
  exact hc0
theorem DM.tok' {m ga : Nat} (h : DM W wr db G Z n (allL G m) na E ne (some ⟨ga, 0, none⟩) bo ca cb) {k : Nat} (hk : k ≤ m) : wr.cell? ⟨ga, k, none⟩ = some (tkP G k) := by
  obtain ⟨ga', e, hc⟩ := h.tok hk
  obtain rfl : ga = ga' := by simpa using e
  exact hc
theorem tokix (ga na ca k : Nat) (hk : k < na) (w : World) : (Instr.indexAt 28 (.slice (some ⟨ga, 0, none⟩) na ca) (.int .i64 (k : Int))).run Try.prog w = .ok (.pointer (some ⟨ga, k, none⟩)) w := by
  have := TR.ix (P := Try.prog) ga 0 na ca k hk w
  rw [Nat.zero_add, show TR.n = 1 from rfl, Nat.mul_one] at this
  exact this
theorem allL_ext (G : Geo) (n tb kb lb ch up : Nat) : allL (G.ext n tb kb lb ch up) n = allL G n := by
  simp only [allL]
  congr 1
  exact List.map_congr_left fun j hj => by rw [ext_tb (List.mem_range.1 hj)]
/-- behind the document's New and the program's: the desk for joins -/
theorem DM.grow {k tb kb lb ch : Nat} {Z' : Nat → Dy} {bo' : Option Addr} {cb' : Nat} {v : World} (h : DM W v db G Z n (allL G n) na (refF G.up (yZ Z) n ++ [((k : Int) - 1, whyN Z k)]) (n + 1) ao bo' ca cb') (hm : More W.heap.size v w' G Z n k tb kb lb ch Z') :
    DM W w' db (G.ext n tb kb lb ch k) Z' (n + 1) (allL (G.ext n tb kb lb ch k) n) na (refF (G.ext n tb kb lb ch k).up (yZ Z') (n + 1)) (n + 1) ao bo' ca cb' := by
  have e : refF (G.ext n tb kb lb ch k).up (yZ Z') (n + 1) = refF G.up (yZ Z) n ++ [((k : Int) - 1, whyN Z k)] := by
    rw [refF_more, refF_congr (up := G.up) (up' := (G.ext n tb kb lb ch k).up) (y := yZ Z) (y' := yZ Z') (fun j hj => ext_up hj) (fun j hj => hm.old j hj), ext_self.2.2.2.2]
    show _ ++ [(_, (Z' n).why)] = _
    rw [hm.new]
  rw [e, allL_ext]
  exact h.more hm
/-- behind both Cancels -/
theorem DM.both {k : Nat} {why : Int} {Z' : Nat → Dy} {v : World} (h : DM W wr db G Z n (allL G n) na (refF G.up (yZ Z) n) n ao bo ca cb) (hm : Cut W.heap.size wr v G Z n k why Z')
    (hr : RD W.heap.size w' db G.up (fun j => if k ≠ 0 ∧ whyN Z k = 0 ∧ (Z j).why = 0 ∧ abN G.up k (j + 1) = true then wy why else (Z j).why) n bo cb) (ht : Rt W.heap.size v w') :
    DM W w' db G Z' n (allL G n) na (refF G.up (yZ Z') n) n ao bo ca cb := by
  have h1 := h.cut hm
  obtain ⟨f, a, d, b⟩ := h1.rt ht
  refine ⟨f, h1.wf, a, ?_, d, h.ha, by rw [refF_len], h.dl, b⟩
  exact (hr.congr (y' := yZ Z') fun j hj => hm.all j hj).row
end
end Go.Proofs.Ytajbkgcgmkkpiaa.C
