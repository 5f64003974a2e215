/- What came in: an ask to put. -/
import Derived.Test.YtbahfpcfjhifbaaYt
namespace Go.Proofs.Ytbahfpcfjhifbaa
open Go.ChangeShapes Go.WideShapes Go.ChangeAt Go.RowKit Go.Deep
/-- an ask to put -/
structure Pk where
  ctx : List (Nat × Nat)
  x : Nat
  val : ByteArray
  gone : Bool
/-- its value, where its context lies at ao -/
def Pk.v (k : Pk) (ao : Option Addr) (c n : Nat) : Value := .agg #[.slice ao n c, .int .u32 (k.x : Int), .string k.val, .bool k.gone]
section
variable {H : Type} {enc : TypeId × Value → H} {W : World}
theorem cAsk : Try.prog.cellsOf 40 = 4 := by kernel_rfl
set_option maxRecDepth 100000 in
theorem open_ask {base : Nat} {v : Value} {d : DataW H} {ps : List MemPlace} (hval : Value.okWide Try.prog W .any base 40 v) (h : DataW.Trod enc Try.prog W 0 (fun _ => true) true 40 v d ps) (hz : (DataW.weights Try.prog 40 d).all (· ≤ reachBytes) = true) :
    ∃ (k : Pk) (ao : Option Addr) (c : Nat), v = k.v ao c k.ctx.length ∧ Da W k.ctx ao c ∧ k.x < 4294967296 ∧ k.val.size ≤ 140737488355328 := by
  obtain ⟨cs, rfl, hsz⟩ := okWide_struct Try.underlying40 hval
  rw [cAsk] at hsz
  obtain ⟨fuel, hf⟩ := h
  obtain ⟨xs, n, _, hd, hl, hlen, hf⟩ := DataW.trod_struct Try.underlying40 hf
  obtain ⟨l, rfl⟩ : ∃ l : List Value, cs = l.toArray := ⟨cs.toList, by simp⟩
  have hc : (Value.agg l.toArray).cells.toList = l := by simp [Value.cells]
  rw [hc] at hl hf
  have hall := List.all_eq_true.1 hz
  match xs, hlen, l, hsz with
  | [y0, y1, y2, y3], _, [v0, v1, v2, v3], _ =>
    have hd' : d = .agg [y0.1, y1.1, y2.1, y3.1] := by simpa using congrArg Prod.fst hd
    have g0 : DataW.trod enc Try.prog W 0 (fun _ => true) true n 22 (List.take (Try.prog.cellsOf 22) (List.drop 0 [v0, v1, v2, v3])) = some y0 := hf 0 _ rfl
    rw [cDots] at g0
    have g1 : DataW.trod enc Try.prog W 0 (fun _ => true) true n 38 (List.take (Try.prog.cellsOf 38) (List.drop 1 [v0, v1, v2, v3])) = some y1 := hf 1 _ rfl
    rw [cU32] at g1
    have g2 : DataW.trod enc Try.prog W 0 (fun _ => true) true n 9 (List.take (Try.prog.cellsOf 9) (List.drop 2 [v0, v1, v2, v3])) = some y2 := hf 2 _ rfl
    rw [cStr] at g2
    have g3 : DataW.trod enc Try.prog W 0 (fun _ => true) true n 4 (List.take (Try.prog.cellsOf 4) (List.drop 3 [v0, v1, v2, v3])) = some y3 := hf 3 _ rfl
    rw [cBoo] at g3
    have hin : ∀ k, (k ∈ y0.1.weights Try.prog 22 ∨ k ∈ y2.1.weights Try.prog 9) → k ≤ reachBytes := fun k hk => by
      have h3 := hall k (by
        rw [hd']
        simp only [DataW.weights, Try.underlying40]
        simp [DataW.weightsEach]
        rcases hk with hk | hk
        · exact .inl hk
        · exact .inr (.inr (.inl hk)))
      simpa using h3
    obtain ⟨a1, l1, c1, e0, k1⟩ := open_dots_cell g0 (fun k hk => hin k (.inl hk))
    obtain ⟨n1, e1, _, w1⟩ := DataW.trod_int Try.underlying38 g1
    obtain ⟨t, e2, f2, _⟩ := DataW.trod_string Try.underlying9 g2
    obtain ⟨b, e3, _⟩ := DataW.trod_bool Try.underlying4 g3
    simp only [List.drop_zero, List.drop_succ_cons, List.take_succ_cons, List.take_zero, List.cons.injEq, and_true] at e0 e1 e2 e3
    subst e0 e1 e2 e3
    obtain ⟨x, rfl, bx⟩ := nat_u32 w1
    have ht : t.size ≤ reachBytes := hin _ (.inr (by rw [f2]; simp [DataW.weights]))
    exact ⟨⟨l1, x, t, b⟩, a1, c1, rfl, k1, bx, Nat.le_trans ht (by decide)⟩
end
end Go.Proofs.Ytbahfpcfjhifbaa
