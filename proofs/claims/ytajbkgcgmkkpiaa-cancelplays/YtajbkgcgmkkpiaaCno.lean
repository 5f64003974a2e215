/- From a call of one goroutine to a row that speaks of calls that may start some, with the clock. -/
import Derived.Test.YtajbkgcgmkkpiaaHallB
import Derived.Conc.HoldsTime
import Derived.Conc.LeavingOf
import Derived.Leaving
namespace Go.Proofs.Ytajbkgcgmkkpiaa.C
open Go.RowKit Go.Conc Go.ConcM
theorem runs_of_calls {P : Program} {f : FuncId} {args : Array Value} {W : World} {R : Value → World → Prop} (noInit : P.inits.idxOf? f = none) (h : Calls P f args W fun e W' => ∃ v, e = .returned v ∧ R v W') (hos : ∀ v W', R v W' → W'.os = W.os) :
    ∃ M last o w' t', runNT P (M + 1) (solo (G (Frame.enter P f args .normal) []) W) #[] = (.ended o w', t') ∧ runN P M (solo (G (Frame.enter P f args .normal) []) W) = .next last ∧
      step P last = .ended o w' ∧ Conc.Good P (fun v W' => R v { W' with os := W.os } ∧ OsLater W.os W'.os) last o w' t' := by
  have h2 : Calls P f args W fun
      | .returned v, w' => R v w'
      | _, _ => False := h.mono fun e W' ⟨v, he, hr⟩ => by subst he; exact hr
  obtain ⟨n, v, w', fr, hn, hend, hp⟩ := h2.done_lone noInit
  have e1 := runNT_fst P (n + 1) (lone (Frame.enter P f args .normal) [] W) #[]
  rw [hend] at e1
  have ha := alone_of_lone (w' := w') hn
  have hw : { w' with os := W.os } = w' := by
    have := hos v w' hp
    rw [← this]
  refine ⟨n, _, .done v, w', (runNT P (n + 1) (lone (Frame.enter P f args .normal) [] W) #[]).2, Prod.ext e1 rfl, hn, step_of_runs hn hend, v, rfl, ⟨by rw [hw]; exact hp, by rw [hos v w' hp]; exact OsLater.refl _⟩, fun said => not_race_of_allBy (allBy_of_lone P n _ _ hn (by simp [lone]) rfl), ha.2.1, onlyLeaving_of_quiet ha.1, ha.2.2⟩
end Go.Proofs.Ytajbkgcgmkkpiaa.C
