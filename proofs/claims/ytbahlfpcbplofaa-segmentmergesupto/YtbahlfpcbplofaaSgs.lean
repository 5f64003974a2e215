/- Segments: equality of differences; awake. -/
import Derived.Test.YtbahlfpcbplofaaSgr
namespace Go.Proofs.Ytbahlfpcbplofaa.S
open Go.RowKit Go.Lib
/- equality of differences -/
noncomputable def dfF (i : Nat) : Field := (Try.prog.fieldsOf 41).getD i default
theorem dfFs : (Try.prog.fieldsOf 41).toList = [dfF 0, dfF 1, dfF 2] := by kernel_rfl
theorem dfm0 : (dfF 0).name ≠ "_" := of_decide_eq_true (by kernel_rfl)
theorem dfm1 : (dfF 1).name ≠ "_" := of_decide_eq_true (by kernel_rfl)
theorem dfm2 : (dfF 2).name ≠ "_" := of_decide_eq_true (by kernel_rfl)
section
variable (a b c d e f : ByteArray) (u : World)
theorem dpt0 : (part (dfF 0).type #[.string a, .string b, .string c] (dfF 0).offset).run Try.prog u = .ok (.string a) u := by kernel_rfl
theorem dpt1 : (part (dfF 1).type #[.string a, .string b, .string c] (dfF 1).offset).run Try.prog u = .ok (.string b) u := by kernel_rfl
theorem dpt2 : (part (dfF 2).type #[.string a, .string b, .string c] (dfF 2).offset).run Try.prog u = .ok (.string c) u := by kernel_rfl
theorem deq0 : (Op.equalIn 9999 (dfF 0).type (.string a) (.string b)).run Try.prog u = .ok (a.toList == b.toList) u := run_equalIn_string u 9998 (dfF 0).type a b (by kernel_rfl)
theorem deq1 : (Op.equalIn 9999 (dfF 1).type (.string a) (.string b)).run Try.prog u = .ok (a.toList == b.toList) u := run_equalIn_string u 9998 (dfF 1).type a b (by kernel_rfl)
theorem deq2 : (Op.equalIn 9999 (dfF 2).type (.string a) (.string b)).run Try.prog u = .ok (a.toList == b.toList) u := run_equalIn_string u 9998 (dfF 2).type a b (by kernel_rfl)
theorem deqFs : (Op.eqFields 9999 #[.string a, .string b, .string c] #[.string d, .string e, .string f] (Try.prog.fieldsOf 41).toList).run Try.prog u = .ok ((a.toList == d.toList) && ((b.toList == e.toList) && (c.toList == f.toList))) u := by
  rw [dfFs]
  have h2 : (Op.eqFields 9999 #[.string a, .string b, .string c] #[.string d, .string e, .string f] [dfF 2]).run Try.prog u = .ok (c.toList == f.toList) u := by
    simp only [Op.eqFields, if_pos dfm2, Sem.run_bind, dpt2, deq2, Result.andThen_ok]
    cases (c.toList == f.toList) <;> simp
  have h1 : (Op.eqFields 9999 #[.string a, .string b, .string c] #[.string d, .string e, .string f] [dfF 1, dfF 2]).run Try.prog u = .ok ((b.toList == e.toList) && (c.toList == f.toList)) u := by
    rw [Op.eqFields, if_pos dfm1]
    simp only [Sem.run_bind, dpt1, deq1, Result.andThen_ok]
    cases (b.toList == e.toList)
    · simp
    · simp only [Bool.not_true, Bool.false_eq_true, if_false, Bool.true_and]
      exact h2
  rw [Op.eqFields, if_pos dfm0]
  simp only [Sem.run_bind, dpt0, deq0, Result.andThen_ok]
  cases (a.toList == d.toList)
  · simp
  · simp only [Bool.not_true, Bool.false_eq_true, if_false, Bool.true_and]
    exact h1
theorem eqlDf : (binOp .eql 41 (.agg #[.string a, .string b, .string c]) (.agg #[.string d, .string e, .string f])).run Try.prog u = .ok (.bool ((a.toList == d.toList) && ((b.toList == e.toList) && (c.toList == f.toList)))) u := by
  rw [run_eql_struct, run_equalIn_agg u 9999 41 _ _ (by kernel_rfl) (by kernel_rfl), deqFs]
  rfl
theorem neqDf : (binOp .neq 41 (.agg #[.string a, .string b, .string c]) (.agg #[.string d, .string e, .string f])).run Try.prog u = .ok (.bool (!((a.toList == d.toList) && ((b.toList == e.toList) && (c.toList == f.toList))))) u := by
  rw [run_neq_struct, run_equalIn_agg u 9999 41 _ _ (by kernel_rfl) (by kernel_rfl), deqFs]
  rfl
end
theorem df_beq (x y : Df) : ((x.1.toList == y.1.toList) && ((x.2.1.toList == y.2.1.toList) && (x.2.2.toList == y.2.2.toList))) = decide (x = y) := by
  obtain ⟨a, b, c⟩ := x
  obtain ⟨d, e, f⟩ := y
  simp only [ba_beq]
  rw [← Bool.decide_and, ← Bool.decide_and, decide_eq_decide]
  simp
theorem eqlD (x y : Df) (u : World) : (binOp .eql 41 (.agg #[.string x.1, .string x.2.1, .string x.2.2]) (.agg #[.string y.1, .string y.2.1, .string y.2.2])).run Try.prog u = .ok (.bool (decide (x = y))) u := by rw [eqlDf, df_beq]
theorem neqD (x y : Df) (u : World) : (binOp .neq 41 (.agg #[.string x.1, .string x.2.1, .string x.2.2]) (.agg #[.string y.1, .string y.2.1, .string y.2.2])).run Try.prog u = .ok (.bool (!decide (x = y))) u := by rw [neqDf, df_beq]
/- differences behind a slice -/
structure Dl (w : World) (l : List Df) (ao : Option Addr) (n c : Nat) : Prop extends RD.At w l ao c where
  hn : n = l.length
theorem Dl.below {w w' : World} {l : List Df} {ao : Option Addr} {n c : Nat} (h : Dl w l ao n c) (hb : Below w.heap.size w w') : Dl w' l ao n c := ⟨h.toAt.below hb, h.hn⟩
theorem Dl.few {w : World} {l : List Df} {ao : Option Addr} {n c : Nat} (h : Dl w l ao n c) : n ≤ 4398046511000 := by rw [h.hn]; exact h.many
theorem Dl.df {w : World} {l : List Df} {ao : Option Addr} {n c : Nat} (h : Dl w l ao n c) {i : Nat} (hi : i < l.length) : ∃ g o, ao = some ⟨g, o, none⟩ ∧ w.cell? ⟨g, o + i * 3, none⟩ = some (.string l[i].1) ∧ w.cell? ⟨g, o + i * 3 + 1, none⟩ = some (.string l[i].2.1) ∧ w.cell? ⟨g, o + i * 3 + 2, none⟩ = some (.string l[i].2.2) := by
  obtain ⟨g, o, e, h1⟩ := h.toAt.get hi
  exact ⟨g, o, e, h1 0 _ rfl, h1 1 _ rfl, h1 2 _ rfl⟩
theorem ixDf (g o n c i : Nat) (hi : i < n) (W : World) : (Instr.indexAt 35 (.slice (some ⟨g, o, none⟩) n c) (.int .i64 (i : Int))).run Try.prog W = .ok (.pointer (some ⟨g, o + i * 3, none⟩)) W := RD.ix g o n c i hi W
/- concrete lists -/
theorem ok_one {e : En} {wd : Int} (h1 : keyE e.1 = 0) (h2 : (e.2.size : Int) = wd) (h3 : widP wd) : Ok [e] wd := ⟨h3, fun i hi => by
  obtain rfl : i = 0 := by simpa using hi
  exact ⟨h1, h2, fun h => absurd h (Nat.lt_irrefl _)⟩⟩
theorem ok_two {e f : En} {wd : Int} (h1 : keyE e.1 = 0) (h2 : (e.2.size : Int) = wd) (h3 : widP wd) (h4 : keyE f.1 = 0) (h5 : (f.2.size : Int) = wd) (h6 : lt e.1 f.1 = true) : Ok [e, f] wd := ⟨h3, fun i hi => by
  match i, hi with
  | 0, _ => exact ⟨h1, h2, fun h => absurd h (Nat.lt_irrefl _)⟩
  | 1, _ => exact ⟨h4, h5, fun _ => h6⟩⟩
def eA : En := (⟨#[97]⟩, ⟨#[120]⟩)
def eB' : En := (⟨#[98]⟩, ⟨#[121]⟩)
theorem lt_ab : lt ⟨#[97]⟩ ⟨#[98]⟩ = true := by unfold lt; rw [ByteArray.toList_eq, ByteArray.toList_eq]; decide
theorem okA : Ok [eA] 1 := ok_one (by decide) (by decide) (by decide)
theorem okB1 : Ok [eB'] 1 := ok_one (by decide) (by decide) (by decide)
theorem okAB : Ok [eA, eB'] 1 := ok_two (by decide) (by decide) (by decide) (by decide) (by decide) lt_ab
theorem putA : putV [] (⟨#[97]⟩, ⟨#[120]⟩) = ([eA], 0) := by
  unfold putV
  rw [if_pos ⟨okB_nil (by decide), okB_true.2 okA⟩, mgE, mrg_l]
  rfl
theorem putAB : putV [eA] (⟨#[98]⟩, ⟨#[121]⟩) = ([eA, eB'], 0) := by
  unfold putV
  rw [if_pos ⟨okB_true.2 okA, okB_true.2 okB1⟩]
  show (puts (mrg Prod.fst Prod.fst [eA] [eB']), (0 : Int)) = _
  rw [mrg_lt (f := Prod.fst) (g := Prod.fst) (x := eA) (y := eB') lt_ab, mrg_l]
  rfl
theorem difAB : difV [eA] [eA, eB'] = ([(⟨#[98]⟩, ⟨#[]⟩, ⟨#[121]⟩)], 0) := by
  unfold difV
  rw [if_pos ⟨okA.li, okAB.li⟩, mgE, mrg_eq (f := Prod.fst) (g := Prod.fst) (x := eA) (y := eA) rfl, mrg_l]
  rfl
set_option maxRecDepth 100000 in
set_option maxHeartbeats 2000000 in
theorem lAwake (u : World) : Calls Try.prog 49 #[] u fun e u' => e = .returned (.bool true) ∧ Below u.heap.size u u' := by
  have HP1 := hide (sPut [] none 0 0 ⟨#[97]⟩ ⟨#[120]⟩ u ⟨Rec.At.none _, rfl⟩ _ _ putA)
  have HP2 : Hid (∀ (G : World) (ao : Option Addr) (n c : Nat), El G [eA] ao n c → Calls Try.prog 33 #[.slice ao n c, .agg #[.string ⟨#[98]⟩, .string ⟨#[121]⟩]] G fun e u' => ∃ xo k c', e = .returned (.tuple #[.slice xo k c', .int .i64 0]) ∧ k = [eA, eB'].length ∧ RE.Own u' G.heap.size [eA, eB'] xo c' ∧ Below G.heap.size G u') := fun G ao n c hG => sPut [eA] ao n c ⟨#[98]⟩ ⟨#[121]⟩ G hG _ _ putAB
  have HD : Hid (∀ (G : World) (ao bo : Option Addr) (n m c d : Nat), El G [eA] ao n c → El G [eA, eB'] bo m d → Calls Try.prog 29 #[.slice ao n c, .slice bo m d] G fun e u' => ∃ xo k c', e = .returned (.tuple #[.slice xo k c', .int .i64 0]) ∧ k = [((⟨#[98]⟩, ⟨#[]⟩, ⟨#[121]⟩) : Df)].length ∧ RD.Own u' G.heap.size [(⟨#[98]⟩, ⟨#[]⟩, ⟨#[121]⟩)] xo c' ∧ Below G.heap.size G u') := fun G ao bo n m c d h1 h2 => sDiff [eA] [eA, eB'] ao bo n m c d G h1 h2 (by rw [h1.hn, h2.hn]; decide) _ _ difAB
  have hq := eqlD (⟨#[98]⟩, ⟨#[]⟩, ⟨#[121]⟩) (⟨#[98]⟩, ⟨#[]⟩, ⟨#[121]⟩)
  rw [decide_eq_true rfl] at hq
  go_enter Try.func49, Try.ntmps49
  go_wp2_with (first
    | (go_at_call_of 33 (Value.slice none 0 0); refine (unhide HP1).mono ?_; rintro e W1 ⟨x1, k1, c1, rfl, rfl, ho, hb⟩; have HB1 := hide hb; have HE1 : Hid (El W1 [eA] x1 1 c1) := ⟨ho.at (by decide), rfl⟩; clear hb ho)
    | (go_at_call 33; refine (unhide HP2 W1 _ _ _ (unhide HE1)).mono ?_; rintro e W2 ⟨x2, k2, c2, rfl, rfl, ho, hb⟩; have HB2 : Hid (Below u.heap.size u W2) := Below.step (unhide HB1) hb; have HE2 := hide ((unhide HE1).below hb); have HF2 : Hid (El W2 [eA, eB'] x2 2 c2) := ⟨ho.at (by decide), rfl⟩; clear hb ho)
    | (go_at_call 29; refine (unhide HD W2 _ _ _ _ _ _ (unhide HE2) (unhide HF2)).mono ?_; rintro e W3 ⟨x3, k3, c3, rfl, rfl, ho, hb⟩; have HB3 : Hid (Below u.heap.size u W3) := Below.step (unhide HB2) hb; have HF3 : Hid (Dl W3 [(⟨#[98]⟩, ⟨#[]⟩, ⟨#[121]⟩)] x3 1 c3) := ⟨ho.at (by decide), rfl⟩; clear hb ho; obtain ⟨g, o, hx, c0, c1', c2'⟩ := (unhide HF3).df (i := 0) (by decide); subst hx; have hix := ixDf g o 1 c3 0 (by decide); rw [Nat.zero_mul, Nat.add_zero] at hix c0 c1' c2')
    | fail)
  go_ret
  exact ⟨rfl, unhide HB3⟩
end Go.Proofs.Ytbahlfpcbplofaa.S
