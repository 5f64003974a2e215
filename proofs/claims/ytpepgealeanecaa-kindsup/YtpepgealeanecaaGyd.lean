/- Steps of replicas in memory; KindsUp. -/
import Derived.Test.YtpepgealeanecaaGyc
namespace Go.Proofs.Ytpepgealeanecaa
open Go.RowKit Go.Lib
/-- steps that lie in memory -/
structure Cs (w : World) (ao : Option Addr) (l : List (Nat × Int)) : Prop where
  lies : 0 < l.length → ∃ g o, ao = some ⟨g, o, none⟩ ∧ ∀ (j : Nat) (hj : j < l.length), w.rangeAt g (o + j * 2) [.int .u8 (l[j].1 : Int), .int .i16 l[j].2]
  len : l.length ≤ 140737488355328
  fits : ∀ x ∈ l, x.1 < 256 ∧ -32768 ≤ x.2 ∧ x.2 ≤ 32767
theorem ixCn (g o n c i : Nat) (hi : i < n) (W : World) : (Instr.indexAt 54 (.slice (some ⟨g, o, none⟩) n c) (.int .i64 (i : Int))).run Try.prog W = .ok (.pointer (some ⟨g, o + i * 2, none⟩)) W := by
  have he : Try.prog.elem 54 = 58 := by kernel_rfl
  rw [run_indexAt_slice W 54 _ _ _ _ _ (by rw [he]; kernel_rfl), if_pos ⟨by omega, by omega⟩, he, sizeN (n := 2) (by kernel_rfl)]
  simp only [Result.andThen_ok, Int.toNat_natCast, Addr.add_mid]
theorem cnZero : ((Try.prog.info? 58).bind (·.zero)).map (·.cells) = some #[.int .u8 0, .int .i16 0] := by kernel_rfl
theorem cnInfo : (Try.prog.info? 58).map (·.size) = some 2 := by kernel_rfl
theorem cn_all (u d : Int) : (#[.int .u8 u, .int .i16 d] : Array Value).all (·.oneCell') = true := by
  rw [Array.all_eq_true']
  intro v hv
  simp only [List.mem_toArray, List.mem_cons, List.not_mem_nil, or_false] at hv
  rcases hv with rfl | rfl <;> rfl
theorem wpList_store_cn {ops : Array Oper} {rest : List Oper} {o : Oper} {a : Act} {w : World} {Q : Exit → Act → World → Prop} (hgd : o.guard = none) (x y : Operand) (ho : o.op = .store 58 x y) (g : Nat) (p q : Int) (hx : a.eval x = .pointer (some ⟨g, 0, none⟩)) (hy : a.eval y = .agg #[.int .u8 p, .int .i16 q])
    {c0 c1 : Value} (hg : w.heap[g]? = some (.cells #[c0, c1] 58 (0, 0)))
    (h : ∀ w', Hid (w'.heap[g]? = some (.cells #[.int .u8 p, .int .i16 q] 58 (0, 0))) → Hid (w' = w.setRow g #[.int .u8 p, .int .i16 q]) → wpList Try.prog ops Q rest (a.put o.dst undef) w') : wpList Try.prog ops Q (o :: rest) a w :=
  wpList_store_hid hgd _ x y ho g _ hx hy _ _ hg cnInfo rfl (cn_all _ _) h
theorem wpList_alloc_cn {ops : Array Oper} {rest : List Oper} {o : Oper} {a : Act} {w : World} {Q : Exit → Act → World → Prop} (hg : o.guard = none) (ho : o.op = .alloc 58) (d : Option Tmp) (hd : o.dst = d) (N : Nat) (hN : N = w.heap.size)
    (h : ∀ w', Hid (w'.heap[N]? = some (.cells #[.int .u8 0, .int .i16 0] 58 (0, 0))) → Hid (Below N w w') → Hid (w'.heap.size = N + 1) → wpList Try.prog ops Q rest (a.put d (.pointer (some ⟨N, 0, none⟩))) w') : wpList Try.prog ops Q (o :: rest) a w :=
  wpList_alloc_row hg _ ho d hd N hN.symm _ cnZero h
theorem cn_cells {W : World} {N : Nat} {c0 c1 : Value} {t : TypeId} (h : W.heap[N]? = some (.cells #[c0, c1] t (0, 0))) : W.cell? ⟨N, 0, none⟩ = some c0 ∧ W.cell? ⟨N, 1, none⟩ = some c1 ∧ W.frozen? ⟨N, 0, none⟩ = false := by
  refine ⟨?_, ?_, ?_⟩ <;> simp [World.cell?, World.frozen?, h]
theorem cn_set {W : World} {N : Nat} {c0 c1 v : Value} {t : TypeId} (h : W.heap[N]? = some (.cells #[c0, c1] t (0, 0))) : (W.setCell ⟨N, 0, none⟩ v).heap[N]? = some (.cells #[v, c1] t (0, 0)) := heapCell_same h 0 v
theorem stR_none {ta : List Nat} {r : Nat} {c : Int} (h : ¬ ta.getD (stI r c) 0 + c.natAbs ≤ 65535) : stR ta r c = none := if_neg h
/-- what a step makes of a tally -/
theorem step_some {ta t : List Nat} {r : Nat} {c : Int} (hg : Gt10 ta) (h1 : 1 ≤ r) (h5 : r ≤ 5) (h : stR ta r c = some t) : Gt10 t ∧ tsm t 5 = tsm ta 5 + c ∧ tjn ta t = t ∧ (t = ta ↔ c = 0) ∧ t = ta.set (stI r c) (ta.getD (stI r c) 0 + c.natAbs) := by
  unfold stR at h
  split at h
  · rename_i hle
    obtain rfl := Option.some.inj h
    have hi : stI r c < 10 := by unfold stI; split <;> omega
    refine ⟨gt_set hg hle, ?_, tjn_up hg.1 hi (by omega), ?_, rfl⟩
    · have q := tsm_set hg.1 (q := r - 1) (by omega) c.natAbs
      unfold stI
      split
      · rw [q.2]; omega
      · rw [Nat.add_zero, q.1]; omega
    · have hl := hg.1
      constructor
      · intro e
        have := congrArg (fun l => l.getD (stI r c) 0) e
        simp only [List.getD_eq_getElem?_getD, List.getElem?_set_self (show stI r c < ta.length by omega), Option.getD_some] at this
        omega
      · intro e
        subst e
        rw [show (0 : Int).natAbs = 0 from rfl, Nat.add_zero]
        apply List.ext_getElem?
        intro j
        rw [List.getElem?_set]
        split
        · rename_i e; subst e
          rw [if_pos (by omega), List.getD_eq_getElem?_getD, List.getElem?_eq_getElem (show stI r 0 < ta.length by omega)]; rfl
        · rfl
  · cases h
end Go.Proofs.Ytpepgealeanecaa
