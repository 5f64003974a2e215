/- Tokens: Off: a select of one receive with a default, behind a call. -/
import Derived.Test.YtajbkgcgmkkpiaaCnb
import Derived.Conc.LoneSelect
namespace Go.Proofs.Ytajbkgcgmkkpiaa.C
open Go.RowKit Go.Lib Go.Conc
/-- a call by its contract, in a walk of the machine of one -/
theorem loneTo_call {P : Program} {Q : Goroutine → World → Prop} {b : Frame} {a : Act} {k : List Item} {ops : Array Oper} {i : Nat} {rest : List Nat} {o : Oper} {f : FuncId} {fn : Func} {args : Array Operand} {ats : Array TypeId} {cs : List Frame} {w : World}
    (ho : ops[i]? = some o) (hw : Region.wanted o (yielded ops a.tmps) = true) (hk : b.kind ≠ .early) (hop : o.op = .call { callee := .value (.func f), args, argTypes := ats })
    (hf : P.funcs[f]? = some fn) (hname : (fn.name == "runtime.NumGoroutine") = false) (hb : fn.body.isNone = false)
    (args' : Array Value) (hargs : args.map a.eval = args') (v : Value) (hc : Calls P f args' w fun e w' => e = .returned v ∧ w' = w)
    (h : LoneTo P Q (G (b.at (a.put ((ops[i]?).bind (·.dst)) v) (.inRegion ops rest :: k)) cs) w) :
    LoneTo P Q (G (b.at a (.inRegion ops (i :: rest) :: k)) cs) w := by
  refine LoneTo.step (step_solo_go rfl (stepG_enter ho hw hk (run_call_body hop hf hname hb))) ?_
  subst hargs
  obtain ⟨e, w', fr, ⟨rfl, rfl⟩, hs, _, hl⟩ := hc (b.at a (.inRegion ops (i :: rest) :: k) :: cs)
  obtain ⟨g2, w2, hs2, hq⟩ := h
  refine ⟨g2, w2, Steps.trans hs (Steps.head ?_ hs2), hq⟩
  have := step_leave_returned (c := b.at a (.inRegion ops (i :: rest) :: k)) (cs := cs) hl
  rw [Frame.finish_at] at this
  exact this
section
variable {B : Nat} {W : World} {G : Geo} {Z : Nat → Dy} {m n : Nat}
set_option maxRecDepth 100000 in
theorem kOffNil (w : World) : Calls Try.prog 16 #[.pointer none] w fun e w' => e = .returned (.bool false) ∧ w' = w := by
  refine calls_of_loneTo fun cs => ?_
  have e : Frame.enter Try.prog 16 #[.pointer none] .normal = (base 16).at ⟨#[.pointer none, undef, undef, undef, undef, undef, undef, undef], []⟩ [.code (Try.f16.body.getD .skip)] := by
    simp [Frame.enter, Frame.at, Try.func16, base, Try.f16]
  rw [e]
  refine LoneTo.goes (n := 8) ?_
  simp only [Try.f16, Option.getD_some]
  s_c stepG_seq
  s_reg
  s_op
  s_c stepG_region_end
  s_c stepG_seq
  s_reg
  s_op
  s_stop
  refine loneTo_call rfl rfl (by decide) rfl Try.func56 (by kernel_rfl) (by kernel_rfl) #[.pointer none] (by simp [Act.eval]) (.chan none) (kDoneNil w) ?_
  walk_nrm
  refine LoneTo.goes (n := 4) ?_
  s_c stepG_region_end
  s_c stepG_seq
  s_reg
  s_stop
  refine LoneTo.step (step_lone_select_recv_nil (z := .agg #[]) (stepG_comm (cases := #[rcaseNil (.agg #[])]) (blocking := false) (shape := .select) (w' := w) rfl rfl (by decide) (by simp [go_sem, execOp, rcaseNil, Act.eval]))) ?_
  rw [Frame.finish_at]
  walk_nrm
  refine LoneTo.goes (n := 12) ?_
  s_op
  s_op
  s_c stepG_region_end
  s_c stepG_block
  s_cond false
  s_c stepG_seq
  s_reg
  s_op
  s_c stepG_region_end
  s_c stepG_ret'
  s_stop
  exact LoneTo.done ⟨.returned (.bool false), _, rfl, ⟨rfl, rfl⟩, rfl, rfl, rfl, rfl, _, Try.func16, by simp [results, Try.f16, Frame.at]⟩
set_option maxRecDepth 100000 in
theorem kOff (h : Fk B W G Z m n) {i : Nat} (hi : i < m) : Calls Try.prog 16 #[.pointer (some ⟨G.tb i, 0, none⟩)] W fun e w' => e = .returned (.bool (decide (¬ (Z i).why = 0))) ∧ w' = W := by
  have HD := kDone h hi
  have hc := h.chn i (Nat.lt_of_lt_of_le hi h.le)
  generalize decide (¬ (Z i).why = 0) = cl at hc ⊢
  clear h
  refine calls_of_loneTo fun cs => ?_
  have e : Frame.enter Try.prog 16 #[.pointer (some ⟨G.tb i, 0, none⟩)] .normal = (base 16).at ⟨#[.pointer (some ⟨G.tb i, 0, none⟩), undef, undef, undef, undef, undef, undef, undef], []⟩ [.code (Try.f16.body.getD .skip)] := by
    simp [Frame.enter, Frame.at, Try.func16, base, Try.f16]
  rw [e]
  refine LoneTo.goes (n := 8) ?_
  simp only [Try.f16, Option.getD_some]
  s_c stepG_seq
  s_reg
  s_op
  s_c stepG_region_end
  s_c stepG_seq
  s_reg
  s_op
  s_stop
  refine loneTo_call rfl rfl (by decide) rfl Try.func56 (by kernel_rfl) (by kernel_rfl) #[.pointer (some ⟨G.tb i, 0, none⟩)] (by simp [Act.eval]) (.chan (some (G.ch i))) HD ?_
  walk_nrm
  refine LoneTo.goes (n := 4) ?_
  s_c stepG_region_end
  s_c stepG_seq
  s_reg
  s_stop
  cases cl with
  | true =>
    refine LoneTo.step (step_lone_select_recv_shut (c := G.ch i) (z := .agg #[]) (cap := 0) (s := 0) (r := 0) (tm := false) (stepG_comm (cases := #[rcase (G.ch i) (.agg #[])]) (blocking := false) (shape := .select) (w' := W) rfl rfl (by decide) (by simp [go_sem, execOp, rcase, Act.eval])) hc) ?_
    rw [Frame.finish_at]
    walk_nrm
    refine LoneTo.goes (n := 12) ?_
    s_op
    s_op
    s_c stepG_region_end
    s_c stepG_block
    s_cond true
    s_c stepG_seq
    s_reg
    s_op
    s_c stepG_region_end
    s_c stepG_ret'
    s_stop
    exact LoneTo.done ⟨.returned (.bool true), _, rfl, ⟨rfl, rfl⟩, rfl, rfl, rfl, rfl, _, Try.func16, by simp [results, Try.f16, Frame.at]⟩
  | false =>
    refine LoneTo.step (step_lone_select_default (c := G.ch i) (z := .agg #[]) (cap := 0) (s := 0) (r := 0) (tm := false) (stepG_comm (cases := #[rcase (G.ch i) (.agg #[])]) (blocking := false) (shape := .select) (w' := W) rfl rfl (by decide) (by simp [go_sem, execOp, rcase, Act.eval])) hc) ?_
    rw [Frame.finish_at]
    walk_nrm
    refine LoneTo.goes (n := 12) ?_
    s_op
    s_op
    s_c stepG_region_end
    s_c stepG_block
    s_cond false
    s_c stepG_seq
    s_reg
    s_op
    s_c stepG_region_end
    s_c stepG_ret'
    s_stop
    exact LoneTo.done ⟨.returned (.bool false), _, rfl, ⟨rfl, rfl⟩, rfl, rfl, rfl, rfl, _, Try.func16, by simp [results, Try.f16, Frame.at]⟩
end
end Go.Proofs.Ytajbkgcgmkkpiaa.C
