/- Segments: the document's form; Form and Sum of both sides. Written by mksgh.py. -/
import Derived.Test.YtopabadnbelegaaQSgg
namespace Go.Proofs.Ytopabadnbelegaa.S
open Go.RowKit Go.Lib
theorem catL (x y : List UInt8) (hx : x.length ≤ 8388608) (hy : y.length ≤ 8388608) (W : World) : (Op.stringOp .add ⟨x.toArray⟩ ⟨y.toArray⟩).run Try.prog W = .ok (.string ⟨(x ++ y).toArray⟩) W :=
  run_string_add_lists W x y (by omega) (by omega)
/-- a text's bytes behind a row of bytes -/
theorem brPutS {w u : World} {g cap : Nat} {bs : List UInt8} (h : D.BR w u g cap bs) (ty : TypeId) (q : List UInt8) (_ : 0 < q.length) (hby : bs.length + q.length ≤ 140737488355328) :
    ∃ g' cap' u', (Builtin.append_ #[81, 9] ty #[.slice (some ⟨g, 0, none⟩) bs.length cap, .string ⟨q.toArray⟩]).run Try.prog u = .ok (.slice (some ⟨g', 0, none⟩) (bs ++ q).length cap') u' ∧ D.BR w u' g' cap' (bs ++ q) := by
  obtain ⟨i0, hi, hz0, hz1, hz2⟩ := info_parts D.infoU8
  obtain ⟨cur, fr, h1, h2, h3, h4⟩ := h.row
  have hle := h.le
  have hqs : (⟨q.toArray⟩ : ByteArray).size = q.length := List.size_toArray
  have hsc : strCells ⟨q.toArray⟩ = Lib.byteCells q := by simp [strCells, Lib.byteCells]
  by_cases hroom : bs.length + q.length ≤ cap
  · have hfc := run_firstCells_string (P := Try.prog) u 1 ⟨q.toArray⟩
    rw [hqs, hsc] at hfc
    have hst := run_storeCells_cells (P := Try.prog) g (0 + bs.length) (Lib.byteCells q) 0 u (by
        intro j hj
        rw [D.byteCells_len] at hj
        have : bs.length + j < cur.size := by omega
        simp [World.cell?, h1, this]) (by
        intro j hj
        rw [D.byteCells_len] at hj
        simpa using h4 (bs.length + j) (by omega)) (D.byteCells_one q)
    simp only [Nat.add_zero, Nat.zero_add] at hst
    have hr : (Builtin.append_ #[81, 9] ty #[.slice (some ⟨g, 0, none⟩) bs.length cap, .string ⟨q.toArray⟩]).run Try.prog u = .ok (.slice (some ⟨g, 0, none⟩) (bs ++ q).length cap) (u.setCells g bs.length (Lib.byteCells q)) := by
      rw [List.length_append]
      simp [Builtin.append_, run_underlying Try.underlying81, run_underlying Try.underlying9, sizeOf, typeInfo, hi, hz1, Builtin.lenOf, hqs, hroom, hfc, Addr.add_lit, hst]
    have hcl0 : cur.toList.length = cap := (Array.length_toList).trans h2
    have hcl : bs.length + (Lib.byteCells q).length ≤ cur.toList.length := by rw [D.byteCells_len, hcl0]; exact hroom
    have h1' : u.heap[g]? = some (.cells cur.toList.toArray 5 fr) := by simpa using h1
    have hrow := D.heap_setCells (Lib.byteCells q) bs.length u cur.toList h1' hcl
    have hu : D.U1 u (u.setCells g bs.length (Lib.byteCells q)) g := D.U1.cells _ _ _ (D.U1.refl _ _)
    refine ⟨g, cap, _, hr, ⟨⟨_, fr, hrow, ?_, ?_, ?_⟩, h.ge, by simpa using hroom, h.max, h.bel.trans (hu.toBelow h.bel.size h.ge)⟩⟩
    · rw [List.size_toArray, D.splice_len _ _ _ hcl, hcl0]
    · have ht := D.splice_take cur.toList bs.length (Lib.byteCells q) hcl
      rw [D.byteCells_len] at ht
      rw [List.length_append, ht, h3]
      simp [Lib.byteCells]
    · intro j hj
      rw [World.frozen?_setCells]
      exact h4 j hj
  · have hr := run_append_grow_string (P := Try.prog) u 81 9 ty 5 i0 (.int .u8 0) Try.underlying81 Try.underlying9 hi hz0 ⟨g, 0, none⟩ bs.length cap (Lib.byteCells bs) (by rw [D.byteCells_len, hz1, Nat.mul_one])
      (fun j x hx => by
        have hj : j < bs.length := by have := (List.getElem?_eq_some_iff.1 hx).1; rwa [D.byteCells_len] at this
        rw [D.byteCells_at bs j hj] at hx
        rw [Addr.add_mid, Nat.zero_add, h.cell j hj, hx]) ⟨q.toArray⟩ (by rw [hqs]; omega) (by rw [hqs]; omega) (by rw [hz2, hqs]; exact growslice_fits (by omega) (by omega))
    rw [hqs, hsc] at hr
    have hge := grownCap_ge u (bs.length + q.length) cap 5
    have hcm : grownCap u (bs.length + q.length) cap 5 ≤ maxLen := grownCap_le_maxLen u (bs.length + q.length) cap 5 (by simp only [maxLen]; omega)
    rw [← List.length_append] at hr
    refine ⟨_, _, _, hr, ⟨⟨_, _, heap_alloc_new u.drew _, ?_, ?_, ?_⟩, h.bel.size, by rw [List.length_append]; exact hge, by rw [List.length_append]; exact hcm, ?_⟩⟩
    · have hz3 : (Value.int IntKind.u8 0).cells.size = 1 := rfl
      simp only [Array.size_append, List.size_toArray, size_zeroCells, hz3, D.byteCells_len, List.length_append]
      omega
    · simp only [Array.toList_append, List.append_assoc]
      rw [← List.append_assoc, show Lib.byteCells bs ++ Lib.byteCells q = Lib.byteCells (bs ++ q) by simp [Lib.byteCells]]
      exact (List.take_append_of_le_length (by rw [D.byteCells_len]; exact Nat.le_refl _)).trans (List.take_of_length_le (by rw [D.byteCells_len]; exact Nat.le_refl _))
    · intro j _
      unfold World.frozen?
      rw [show (u.drew.alloc _).heap[(⟨u.heap.size, j, none⟩ : Addr).block]? = _ from heap_alloc_new u.drew _]
      simp
    · exact ⟨h.bel.os, h.bel.tape, h.bel.output, by simpa using Nat.le_succ_of_le h.bel.size, fun k hk => (Below.heap_alloc u.drew _ k (Nat.lt_of_lt_of_le hk h.bel.size)).trans (h.bel.block k hk)⟩
theorem wpList_brPut {ops : Array Oper} {rest : List Oper} {o : Oper} {a : Act} {u : World} {Q : Exit → Act → World → Prop} (hgd : o.guard = none) (s x : Operand) (ho : o.op = .call { callee := .builtin .append, args := #[s, x], argTypes := #[81, 9] }) (d : Option Tmp) (hd : o.dst = d)
    (w : World) (g cap n : Nat) (bs q : List UInt8) (hn : n = bs.length) (h : D.BR w u g cap bs) (hs : a.eval s = .slice (some ⟨g, 0, none⟩) n cap) (hx : a.eval x = .string ⟨q.toArray⟩) (h0 : 0 < q.length) (hby : bs.length + q.length ≤ 140737488355328)
    (hk : ∀ g' n' cap' u', Hid (n' = (bs ++ q).length) → Hid (D.BR w u' g' cap' (bs ++ q)) → wpList Try.prog ops Q rest (a.put d (.slice (some ⟨g', 0, none⟩) n' cap')) u') : wpList Try.prog ops Q (o :: rest) a u := by
  subst hd hn
  refine wpList_plain hgd fun K hK => ?_
  obtain ⟨g', cap', u', hr, h2⟩ := brPutS h o.type q h0 hby
  unfold Oper.wp execOp
  simp only [ho, resolve, invoke, builtin, Sem.run_bind, Sem.run_pure, Result.andThen_ok, List.map_toArray, List.map_cons, List.map_nil, hs, hx, hr]
  exact hK _ _ (hk g' _ cap' u' rfl h2)
theorem br_string {w u : World} {g cap n : Nat} {bs : List UInt8} (h : D.BR w u g cap bs) (hn : n = bs.length) : (convert 81 9 (.slice (some ⟨g, 0, none⟩) n cap)).run Try.prog u = .ok (.string ⟨bs.toArray⟩) u := by
  subst hn
  refine run_convert_bytes_back u 81 9 5 ⟨g, 0, none⟩ cap bs Try.underlying81 Try.underlying5 Try.underlying9 fun j hj => ?_
  rw [Addr.add_mid, Nat.zero_add]
  exact h.cell j hj
theorem wpList_conv {ops : Array Oper} {rest : List Oper} {o : Oper} {a : Act} {u : World} {Q : Exit → Act → World → Prop} (hgd : o.guard = none) (x : Operand) (ho : o.op = .convert 9 81 x) (d : Option Tmp) (hd : o.dst = d) (q : List UInt8) (hx : a.eval x = .string ⟨q.toArray⟩) (hs : q.length ≤ 140737488355328)
    (hk : ∀ g n cap u', Hid (n = q.length) → Hid (D.BR u u' g cap q) → wpList Try.prog ops Q rest (a.put d (.slice (some ⟨g, 0, none⟩) n cap)) u') : wpList Try.prog ops Q (o :: rest) a u := by
  subst hd
  have hqs : (⟨q.toArray⟩ : ByteArray).size = q.length := List.size_toArray
  obtain ⟨g, cap, u', hr, hb⟩ := D.conv_br u ⟨q.toArray⟩ (by rw [hqs]; exact hs)
  refine wpList_plain hgd fun K hK => ?_
  unfold Oper.wp execOp
  simp only [ho, Sem.run_bind, Sem.run_pure, Result.andThen_ok, hx, hr]
  exact hK _ _ (hk g _ cap u' hqs hb)
theorem BR.up {w u v : World} {g cap : Nat} {bs : List UInt8} (h : D.BR u v g cap bs) (hb : Below w.heap.size w u) : D.BR w v g cap bs := ⟨h.row, Nat.le_trans hb.size h.ge, h.le, h.max, hb.trans (h.bel.mono hb.size)⟩
end Go.Proofs.Ytopabadnbelegaa.S
