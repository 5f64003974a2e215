/- An array of numbers is like itself. -/
import Derived.Test.YtpbifpbblinopaaSh
import Derived.ChangeKeysEq
import Derived.Laws.StructEq
namespace Go.Proofs.Ytpbifpbblinopaa
open Go.RowKit

theorem eqItems_same {P : Program} (w : World) (d : Nat) {e : TypeId} {k' : IntKind} (hu : P.underlying e = some (.int k')) (xs : Array Value) : ∀ (is : List Nat), (∀ i ∈ is, ∃ k x, xs[i]? = some (.int k x)) → (Op.eqItems (d + 1) e 1 xs xs is).run P w = .ok true w
  | [], _ => by simp [Op.eqItems]
  | i :: is, h => by
    obtain ⟨k, x, hx⟩ := h i (by simp)
    have hp : (part e xs (i * 1)).run P w = .ok (.int k x) w := by simp [part, isAgg, run_underlying hu, hx]
    simp only [Op.eqItems, Sem.run_bind, hp, Result.andThen_ok, run_equalIn_int w d e k k' x x hu]
    simpa using eqItems_same w d hu xs is (fun j hj => h j (by simp [hj]))
theorem eqArr {P : Program} (w : World) {t e : TypeId} {n : Nat} {i : TypeInfo} {k' : IntKind} (xs : Array Value) (hu : P.underlying t = some (.array n e)) (he : P.underlying e = some (.int k')) (hi : P.info? e = some i) (hs : i.size = 1)
    (h : ∀ j, j < n → ∃ k x, xs[j]? = some (.int k x)) : (Op.equalIn 10000 t (.agg xs) (.agg xs)).run P w = .ok true w := by
  have hc : P.cellsOf e = 1 := by simp [Program.cellsOf, hi, hs]
  rw [show 10000 = 9998 + 1 + 1 from rfl, run_equalIn_array w _ xs xs hu hi, hc]
  exact eqItems_same w _ he xs _ (fun j hj => h j (by simpa using hj))
theorem eqSum (xs : Array Value) (h : ∀ j, j < 32 → ∃ k x, xs[j]? = some (.int k x)) (w : World) : (Op.equalIn 10000 38 (.agg xs) (.agg xs)).run Try.prog w = .ok true w := by
  have hi : (Try.prog.info? 5).map (·.size) = some 1 := by kernel_rfl
  cases hq : Try.prog.info? 5 with
  | none => simp [hq] at hi
  | some i => exact eqArr w xs Try.underlying38 Try.underlying5 hq (by simpa [hq] using hi) h
theorem eqSt (xs : Array Value) (h : ∀ j, j < 8 → ∃ k x, xs[j]? = some (.int k x)) (w : World) : (Op.equalIn 10000 23 (.agg xs) (.agg xs)).run Try.prog w = .ok true w := by
  have hi : (Try.prog.info? 22).map (·.size) = some 1 := by kernel_rfl
  cases hq : Try.prog.info? 22 with
  | none => simp [hq] at hi
  | some i => exact eqArr w xs Try.underlying23 Try.underlying22 hq (by simpa [hq] using hi) h
end Go.Proofs.Ytpbifpbblinopaa
