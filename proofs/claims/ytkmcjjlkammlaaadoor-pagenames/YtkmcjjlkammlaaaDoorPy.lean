/- The page: Blank; the walk of PageNames. -/
import Derived.Test.YtkmcjjlkammlaaaDoorPq
namespace Go.Proofs.YtkmcjjlkammlaaaDoor
open Go.RowKit Go.Lib

theorem wpList_load_on {P : Program} {ops : Array Oper} {rest : List Oper} {op : Oper} {a : Act} {w : World} {Q : Exit → Act → World → Prop} (hwn : Region.wanted op (yielded ops a.tmps) = true) (ty : TypeId) (x : Operand) (ho : op.op = .load ty x)
    (b o : Nat) (hx : a.eval x = .pointer (some ⟨b, o, none⟩)) (cs : List Value) (d : TypeDesc) (hc : w.rangeAt b o cs)
    (hu : P.underlying ty = some d) (hd : d.isRow = true) (hi : (P.info? ty).map (·.size) = some cs.length) (D : Option Tmp) (hD : op.dst = D)
    (h : wpList P ops Q rest (a.put D (.agg cs.toArray)) w) : wpList P ops Q (op :: rest) a w := by
  subst hD
  refine wpList_step fun K hK => ?_
  rw [if_pos hwn]
  exact wp_load_mid ty x ho b o hx cs d hc hu hd hi (hK _ _ h)
set_option maxRecDepth 100000 in
theorem pBlank (l : List UInt8) (hl : l.length = 1024) (g o cap : Nat) (w : World) (hr : w.rangeAt g o (img l).toList) : Calls Tryd.prog 16 #[.slice (some ⟨g, o, none⟩) 1024 cap] w fun e w' => e = .returned (.bool (decide (l = zeros 1024))) ∧ w' = w := by
  have HIM : Hid ((Tryd.prog.info? 52).map (·.size) = some (img l).size) := by show _ = _; rw [img_size, hl]; exact imgInfo
  have heq := fun W => eqImg l (zeros 1024) hl (by rw [zeros, List.length_replicate]) W
  have hzv := fun (W : World) => zeroVal W
  have hta := run_toArr ⟨g, o, none⟩ cap
  have HLA := hide hr
  generalize decide (l = zeros 1024) = bb at *
  generalize img l = A at *
  generalize img (zeros 1024) = Z at *
  clear hr hl
  go_enter Tryd.func16, Tryd.ntmps16
  go_wp2_with (first
    | (refine wpList_load_on (by rfl) 52 (.tmp 8) (by rfl) g o (by rfl) A.toList _ (unhide HLA) Tryd.underlying52 (by rfl) (by simpa using unhide HIM) (some 9) (by rfl) ?_; simp only [Act.put, List.setIfInBounds_toArray, List.set_cons_zero, List.set_cons_succ, Array.toArray_toList]))
  go_ret
  exact ⟨rfl, rfl⟩
theorem pBlankNil (w : World) : Calls Tryd.prog 16 #[.slice none 0 0] w fun e w' => e = .returned (.bool false) ∧ w' = w := by
  go_enter Tryd.func16, Tryd.ntmps16
  go_wp2
  go_ret
  exact ⟨rfl, rfl⟩
theorem made_lies (w : World) : LiesB (w.alloc (.cells (madeCells #[.int .u8 0] 1024) 5)) (some ⟨w.heap.size, 0, none⟩) (zeros 1024) := fun _ => by
  have h := Row.made w 1024 5
  refine ⟨w.heap.size, 0, rfl, h.lt, fun j hj => ?_⟩
  have hj2 : j < (List.replicate 1024 (0 : UInt8)).length := hj
  rw [Nat.zero_add, h.cell j hj2]
  simp only [zeros, List.getElem_replicate, List.getD, List.getElem?_eq_getElem hj2, Option.getD_some]
set_option maxRecDepth 100000 in
theorem names_walk (w : World) (hT : Tab w) : Calls Tryd.prog 5 #[] w fun e w' => e = .returned (.bool true) ∧ Below w.heap.size w w' := by
  have hz : (zeros 1024).length = 1024 := by rw [zeros, List.length_replicate]
  have HD : Hid (∀ u, Tab u → Calls Tryd.prog 14 #[.slice (some ⟨u.heap.size, 0, none⟩) 1024 1024, .int .u32 0] (u.alloc (.cells (madeCells #[.int .u8 0] 1024) 5)) fun e w' => e = .returned (.tuple #[.agg #[.int .u8 0, .int .u32 0, .int .u64 0, .string ⟨#[]⟩], .int .i64 51]) ∧ Below (u.alloc (.cells (madeCells #[.int .u8 0] 1024) 5)).heap.size (u.alloc (.cells (madeCells #[.int .u8 0] 1024) 5)) w') := fun u hu => by
    classical
    have h := pDecAny (zeros 1024) (some ⟨u.heap.size, 0, none⟩) 1024 0 (u.alloc (.cells (madeCells #[.int .u8 0] 1024) 5)) (made_lies u) (hu.below ((Below.refl u.heap.size u).alloc (Nat.le_refl _) _) hu.pos)
    rw [hz, show dec (zeros 1024) 0 = (Pg.zero, 51) from by rw [dec, if_neg (by rw [hz]; simp), if_pos rfl]] at h
    exact h
  have HBl : Hid (∀ u : World, Calls Tryd.prog 16 #[.slice (some ⟨u.heap.size, 0, none⟩) 1024 1024] (u.alloc (.cells (madeCells #[.int .u8 0] 1024) 5)) fun e w' => e = .returned (.bool true) ∧ w' = u.alloc (.cells (madeCells #[.int .u8 0] 1024) 5)) := fun u => by
    obtain ⟨g, o, e, _, hc⟩ := made_lies u (by rw [hz]; decide)
    cases e
    have h := pBlank (zeros 1024) hz u.heap.size 0 1024 _ (LiesB.range hc)
    rw [decide_eq_true rfl] at h
    exact h
  have hmk : ∀ W, (Instr.makeSlice 29 (.int .i64 1024) (.int .i64 1024)).run Tryd.prog W = .ok (.slice (some ⟨W.heap.size, 0, none⟩) 1024 1024) (W.alloc (.cells (madeCells #[.int .u8 0] 1024) 5)) := fun W => run_make_row' (P := Tryd.prog) 29 5 (.int .u8 0) 1 Tryd.underlying29 info5 rfl .i64 .i64 1024 (by omega) (by omega) W
  have HT := hide hT
  clear hz hT
  go_enter Tryd.func5, Tryd.ntmps5
  go_wp2_with fail
  refine (unhide HD w (unhide HT)).mono ?_
  rintro e w1 ⟨rfl, hb⟩
  have HB1 := hide (((Below.refl w.heap.size w).alloc (Nat.le_refl _) (.cells (madeCells #[.int .u8 0] 1024) 5)).trans (hb.mono (by simp)))
  clear hb
  have HB2 := hide ((unhide HB1).alloc (unhide HB1).size (.cells #[.int .u8 0, .int .u32 0, .int .u64 0, .string ⟨#[]⟩] 25))
  have HBz := hide (unhide HBl (w1.alloc (.cells #[.int .u8 0, .int .u32 0, .int .u64 0, .string ⟨#[]⟩] 25)))
  rw [show (w1.alloc (.cells #[.int .u8 0, .int .u32 0, .int .u64 0, .string ⟨#[]⟩] 25)).heap.size = w1.heap.size + 1 from by simp] at HBz
  have HB3 := hide ((unhide HB2).alloc (unhide HB2).size (.cells (madeCells #[.int .u8 0] 1024) 5))
  go_wp2_with fail
  refine (unhide HBz).mono ?_
  rintro e w2 ⟨rfl, hw⟩
  obtain rfl := hw.symm
  clear hw
  generalize ((w1.alloc (.cells #[.int .u8 0, .int .u32 0, .int .u64 0, .string ⟨#[]⟩] 25)).alloc (.cells (madeCells #[.int .u8 0] 1024) 5)) = w3 at *
  go_wp2_with fail
  refine (pBlankNil _).mono ?_
  rintro e w4 ⟨rfl, hw⟩
  obtain rfl := hw.symm
  clear hw
  go_wp2
  go_ret
  exact ⟨rfl, unhide HB3⟩
end Go.Proofs.YtkmcjjlkammlaaaDoor
