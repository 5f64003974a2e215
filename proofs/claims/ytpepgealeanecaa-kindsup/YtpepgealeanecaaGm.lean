/- Tallies joined. -/
import Derived.Test.YtpepgealeanecaaGh
namespace Go.Proofs.Ytpepgealeanecaa
open Go.RowKit Go.Lib
theorem wp_store_iv {P : Program} {o : Oper} {a : Act} {w : World} {K : Act → World → Prop} {Q : Exit → Act → World → Prop} (ty : TypeId) (x y : Operand) (ho : o.op = .store ty x y) (hd : o.dst = none) (b k : Nat) (kd : IntKind) (v : Int) (hx : a.eval x = .pointer (some ⟨b, k, none⟩)) (hy : a.eval y = .int kd v)
    (ht : w.there b k 1) (hi : (P.info? ty).map (·.size) = some 1) (h : K a (w.setCell ⟨b, k, none⟩ (.int kd v))) : o.wp P a w K Q := by
  have h1 : (storeVar ty ⟨b, k, none⟩ (.int kd v)).run P w = .ok () (w.setCells b k [.int kd v]) := run_storeVar_mid (P := P) w b k ty #[.int kd v] ht hi (by simp [Value.oneCell'])
  unfold Oper.wp execOp
  simp only [ho, hx, hy, Instr.storeAt, Instr.sureAddr, Sem.run_bind, Sem.run_pure, Result.andThen_ok, h1]
  exact (show K (a.put o.dst undef) _ by rw [hd]; exact h)
/-- the join of two tallies -/
def tjn (a b : List Nat) : List Nat := List.zipWith max a b
/-- a tally of which the first counts are joined -/
def tjp (a b : List Nat) (n : Nat) : List Nat := (tjn a b).take n ++ a.drop n
section
variable {a b : List Nat}
theorem tjn_len (ha : a.length = 10) (hb : b.length = 10) : (tjn a b).length = 10 := by simp [tjn, ha, hb]
theorem tjp_len (ha : a.length = 10) (hb : b.length = 10) {n : Nat} (hn : n ≤ 10) : (tjp a b n).length = 10 := by
  simp [tjp, tjn_len ha hb, ha]; omega
theorem tjp_zero : tjp a b 0 = a := by simp [tjp]
theorem tjp_ten (ha : a.length = 10) (hb : b.length = 10) : tjp a b 10 = tjn a b := by
  have := tjn_len ha hb
  rw [tjp, List.take_of_length_le (by omega), List.drop_eq_nil_of_le (by omega), List.append_nil]
theorem tjp_get (ha : a.length = 10) (hb : b.length = 10) {n : Nat} (hn : n < 10) : (taC (tjp a b n))[n]? = some (.int .u16 (a.getD n 0 : Nat)) := by
  have := tjn_len ha hb
  simp only [taC, List.getElem?_map, tjp]
  rw [List.getElem?_append_right (by rw [List.length_take]; omega), List.length_take, List.getElem?_drop, show n + (n - min n (tjn a b).length) = n by omega, List.getElem?_eq_getElem (by omega)]
  simp [ha, hn]
theorem tjp_set (ha : a.length = 10) (hb : b.length = 10) {n : Nat} (hn : n < 10) : (taC (tjp a b n)).set n (.int .u16 (max (a.getD n 0) (b.getD n 0) : Nat)) = taC (tjp a b (n + 1)) := by
  have h1 := tjn_len ha hb
  apply List.ext_getElem?
  intro i
  simp only [taC, List.getElem?_set, List.length_map, List.getElem?_map]
  rw [tjp_len ha hb (by omega)]
  have hv : (tjn a b)[n]? = some (max (a.getD n 0) (b.getD n 0)) := by
    simp only [tjn, List.getElem?_zipWith, List.getElem?_eq_getElem (show n < a.length by omega), List.getElem?_eq_getElem (show n < b.length by omega), List.getD_eq_getElem?_getD]
    rfl
  by_cases hi : n = i
  · subst hi
    rw [if_pos rfl, if_pos hn, tjp, List.getElem?_append_left (by rw [List.length_take]; omega), List.getElem?_take, if_pos (by omega), hv]
    rfl
  · rw [if_neg hi]
    congr 1
    unfold tjp
    rcases Nat.lt_or_ge i n with h | h
    · rw [List.getElem?_append_left (by rw [List.length_take]; omega), List.getElem?_append_left (by rw [List.length_take]; omega), List.getElem?_take, List.getElem?_take, if_pos h, if_pos (by omega)]
    · rw [List.getElem?_append_right (by rw [List.length_take]; omega), List.getElem?_append_right (by rw [List.length_take]; omega), List.length_take, List.length_take, List.getElem?_drop, List.getElem?_drop]
      congr 1; omega
end
theorem tjn_bd {a b : List Nat} (ha : ∀ x ∈ a, x < 65536) (hb : ∀ x ∈ b, x < 65536) : ∀ x ∈ tjn a b, x < 65536 := by
  intro x hx
  obtain ⟨i, hi, rfl⟩ := List.mem_iff_getElem.1 hx
  simp only [tjn, List.length_zipWith] at hi
  simp only [tjn, List.getElem_zipWith]
  have h1 := ha _ (List.getElem_mem (show i < a.length by omega))
  have h2 := hb _ (List.getElem_mem (show i < b.length by omega))
  omega
/-- while tallies are joined -/
structure Tj (u w : World) (N : Nat) (l : List Nat) : Prop where
  row : w.heap[N]? = some (.cells (taC l).toArray 75 (0, 0))
  res : w.heap[N + 2]? = some (.cells (taC ta0).toArray 75 (0, 0))
  bl : Below N u w
  len : l.length = 10
theorem Tj.belw {u w w' : World} {N : Nat} {l : List Nat} (h : Tj u w N l) (hb : Below w.heap.size w w') : Tj u w' N l :=
  ⟨box_below h.row hb, box_below h.res hb, h.bl.trans (hb.mono (by have := (Array.getElem?_eq_some_iff.1 h.row).1; omega)), h.len⟩
theorem Tj.drew {u w : World} {N : Nat} {l : List Nat} (h : Tj u w N l) : Tj u w.drew N l := ⟨h.row, h.res, belowDrew h.bl, h.len⟩
theorem Tj.cell {u w : World} {N : Nat} {l : List Nat} (h : Tj u w N l) {n : Nat} {v : Value} (hn : (taC l)[n]? = some v) : w.cell? ⟨N, n, none⟩ = some v := by
  simp only [World.cell?, h.row, List.getElem?_toArray]; exact hn
theorem Tj.there {u w : World} {N : Nat} {l : List Nat} (h : Tj u w N l) {n : Nat} (hn : n < 10) : w.there N n 1 := fun i hi => by
  obtain rfl : i = 0 := by omega
  have hl : (taC l).length = 10 := by rw [taC_len, h.len]
  refine ⟨?_, by simp [World.frozen?, h.row]⟩
  simp only [World.cell?, h.row, Nat.add_zero, List.getElem?_toArray]
  rw [List.getElem?_eq_getElem (by omega)]
  rfl
theorem Tj.set {u w : World} {N : Nat} {l l' : List Nat} {n : Nat} {v : Value} (h : Tj u w N l) (hl : (taC l).set n v = taC l') (hl' : l'.length = 10) : Tj u (w.setCell ⟨N, n, none⟩ v) N l' := by
  refine ⟨?_, (Deep.blk_setCell_other w ⟨N, n, none⟩ v (N + 2) (by simp)).trans h.res, belowCell h.bl (Nat.le_refl _) v, hl'⟩
  have := heapCell_same h.row n v
  rw [this]
  congr 2
  rw [← hl]
  simp
theorem ixT1 (N k : Nat) (hk : k < 5) (W : World) : (Instr.indexAt 75 (.pointer (some ⟨N, 0, none⟩)) (.int .i64 (k : Int))).run Try.prog W = .ok (.pointer (some ⟨N, 2 * k, none⟩)) W := by
  have he : Try.prog.elem 75 = 73 := by kernel_rfl
  have hn : Try.prog.arrayLen 75 = 5 := by kernel_rfl
  rw [run_indexAt_array W 75 _ _ _ (by rw [he, hn]; exact Try.underlying75), hn, he]
  simp only [sizeN ctInfo, Result.andThen_ok]
  rw [if_pos ⟨by omega, by omega⟩]
  simp only [Int.toNat_natCast, Addr.add_mid, Nat.zero_add, Nat.mul_comm]
theorem ixT2 (N o j : Nat) (hj : j < 2) (W : World) : (Instr.indexAt 73 (.pointer (some ⟨N, o, none⟩)) (.int .i64 (j : Int))).run Try.prog W = .ok (.pointer (some ⟨N, o + j, none⟩)) W := by
  have he : Try.prog.elem 73 = 71 := by kernel_rfl
  have hn : Try.prog.arrayLen 73 = 2 := by kernel_rfl
  rw [run_indexAt_array W 73 _ _ _ (by rw [he, hn]; exact Try.underlying73), hn, he]
  simp only [sizeN (t := 71) (n := 1) (by kernel_rfl), Result.andThen_ok]
  rw [if_pos ⟨by omega, by omega⟩]
  simp only [Int.toNat_natCast, Addr.add_mid, Nat.mul_one]
theorem ixC (x y : Nat) (j : Nat) (hj : j < 2) (W : World) : (Instr.index 73 (.agg #[.int .u16 (x : Int), .int .u16 (y : Int)]) (.int .i64 (j : Int))).run Try.prog W = .ok (.int .u16 ((if j = 0 then x else y : Nat) : Int)) W := by
  simp only [Instr.index, asIntOf, Sem.run_bind, Sem.run_pure, Result.andThen_ok, run_underlying Try.underlying73]
  rw [if_pos ⟨by omega, by omega⟩]
  simp only [sizeN (t := 71) (n := 1) (by kernel_rfl), Sem.run_bind, Result.andThen_ok, Int.toNat_natCast, Nat.mul_one]
  have : j = 0 ∨ j = 1 := by omega
  rcases this with rfl | rfl <;> simp [part, isAgg, run_underlying Try.underlying71]
set_option maxRecDepth 100000 in
set_option maxHeartbeats 8000000 in
theorem lTalJoin (ta tb : List Nat) (ha : ta.length = 10) (hb : tb.length = 10) (u : World) :
    Calls Try.prog 85 #[.agg (taC ta).toArray, .agg (taC tb).toArray] u fun e u' => e = .returned (.agg (taC (tjn ta tb)).toArray) ∧ Below u.heap.size u u' := by
  have hmix : Try.prog.follows .mixedOrders = true := by kernel_rfl
  have HLA := hide ha
  have HLB := hide hb
  have HSZ : Hid ((Try.prog.info? 75).map (·.size) = some (taC tb).toArray.size) := by rw [show (taC tb).toArray.size = 10 by simp [taC_len, hb]]; exact taInfo
  have HIX : Hid (∀ i : Nat, i < 5 → ∀ W : World, (Instr.index 75 (.agg (taC tb).toArray) (.int .i64 (i : Int))).run Try.prog W = .ok (.agg #[.int .u16 (tb.getD (2 * i) 0 : Nat), .int .u16 (tb.getD (2 * i + 1) 0 : Nat)]) W) := fun i hi W => ixTa hb hi W
  obtain ⟨TA, hTA⟩ : ∃ x, x = (taC ta).toArray := ⟨_, rfl⟩
  obtain ⟨TB, hTB⟩ : ∃ x, x = (taC tb).toArray := ⟨_, rfl⟩
  rw [← hTB] at HSZ HIX ⊢
  rw [← hTA]
  have HTA := hide hTA
  have HTB := hide hTB
  clear hTA hTB ha hb
  obtain ⟨N, hN⟩ : ∃ N, N = u.heap.size := ⟨_, rfl⟩
  have HN := hide hN
  rw [← hN]
  clear hN
  go_enter Try.func85, Try.ntmps85
  go_wp2_with (first
    | ((with_reducible refine wpList_box_row (by rfl) _ (.tmp 0) (by rfl) (some 2) (by rfl) N (unhide HN).symm TA (by with_unfolding_all rfl) ?_); intro W1 HX1 HB1 HS1; simp only [Act.put, List.setIfInBounds_toArray, List.set_cons_zero, List.set_cons_succ])
    | ((with_reducible refine wpList_box_row (by rfl) _ (.tmp 1) (by rfl) (some 3) (by rfl) (N + 1) (unhide HS1) TB (by with_unfolding_all rfl) ?_); intro W2 HX2 HB2 HS2; simp only [Act.put, List.setIfInBounds_toArray, List.set_cons_zero, List.set_cons_succ])
    | ((with_reducible refine wpList_alloc_row (by rfl) 75 (by rfl) (some 4) (by rfl) (N + 1 + 1) (unhide HS2) (taC ta0).toArray taZero ?_); intro W3 HX3 HB3 HS3; simp only [Act.put, List.setIfInBounds_toArray, List.set_cons_zero, List.set_cons_succ]; have HY2 : Hid (W3.heap[N + 1]? = _) := ((unhide HB3).block (N + 1) (Nat.lt_succ_self _)).trans (unhide HX2))
    | ((with_reducible refine wpList_load_row (by rfl) _ (.tmp 3) (by rfl) (N + 1) (by with_unfolding_all rfl) _ _ _ _ (unhide HY2) Try.underlying75 rfl (unhide HSZ) ?_); simp only [Act.put, List.setIfInBounds_toArray, List.set_cons_zero, List.set_cons_succ])
    | fail)
  have HI0 : Hid (Tj u W3 N (tjp ta tb 0)) := by
    rw [tjp_zero]
    refine ⟨?_, unhide HX3, ?_, unhide HLA⟩
    · rw [← unhide HTA]
      exact ((unhide HB3).block N (by omega)).trans (((unhide HB2).block N (by omega)).trans (unhide HX1))
    · exact (unhide HB1).trans (((unhide HB2).mono (by omega)).trans ((unhide HB3).mono (by omega)))
  clear HX1 HB1 HS1 HX2 HB2 HS2 HX3 HB3 HS3 HY2
  go_loopw [10] (fun s10 wr => ∃ k : Nat, k ≤ 5 ∧ s10 = .int .i64 k ∧ Hid (Tj u wr N (tjp ta tb (2 * k)))) (fun s10 _ => 5 - (intOf s10).toNat)
  case atStart => exact ⟨0, by omega, rfl, unhide HI0⟩
  case round =>
    obtain ⟨k, hk, rfl, HI⟩ := hrel
    by_cases hlt : k < 5
    · have hki : (k : Int) < 5 := by omega
      have hix := unhide HIX k hlt
      have HXC : Hid (∀ j : Nat, j < 2 → ∀ W : World, (Instr.index 73 (.agg #[.int .u16 ((tb.getD (2 * k) 0 : Nat) : Int), .int .u16 ((tb.getD (2 * k + 1) 0 : Nat) : Int)]) (.int .i64 (j : Int))).run Try.prog W = .ok (.int .u16 ((tb.getD (2 * k + j) 0 : Nat) : Int)) W) := fun j hj W => by
        rw [ixC _ _ j hj W]
        have : j = 0 ∨ j = 1 := by omega
        rcases this with rfl | rfl <;> rfl
      generalize tb.getD (2 * k) 0 = x at *
      generalize tb.getD (2 * k + 1) 0 = y at *
      obtain ⟨M, hM⟩ : ∃ M, M = wr.heap.size := ⟨_, rfl⟩
      have HM := hide hM
      clear hM
      obtain ⟨wr0, hwr0⟩ : ∃ w, w = wr := ⟨_, rfl⟩
      rw [← hwr0] at HI HM ⊢
      clear hwr0
      go_wp2_with (first
        | ((with_reducible refine wpList_alloc_ct (by rfl) (by rfl) (some 6) (by rfl) M (unhide HM) ?_); intro W7 HX7 HB7 HS7; simp only [Act.put, List.setIfInBounds_toArray, List.set_cons_zero, List.set_cons_succ])
        | ((with_reducible refine wpList_store_ct (by rfl) (.tmp 6) (.tmp 13) (by rfl) M (x : Int) (y : Int) (by with_unfolding_all rfl) (by with_unfolding_all rfl) (unhide HX7) ?_); intro W8 HX8 HE8; simp only [Act.put]; have HW8 := hide ((unhide HI).belw (w' := W8) (by rw [← unhide HM, unhide HE8]; exact belowRow (unhide HB7) (Nat.le_refl _) _)); obtain ⟨y0, y1⟩ := ct_cells (unhide HX8))
        | fail)
      clear y0 y1 HX7 HB7 HS7 HX8 HE8 HM HI
      go_loopw [15] (fun s15 wr2 => ∃ j : Nat, j ≤ 2 ∧ s15 = .int .i64 j ∧ Hid (Tj u wr2 N (tjp ta tb (2 * k + j)))) (fun s15 _ => 2 - (intOf s15).toNat)
      case atStart => exact ⟨0, by omega, rfl, unhide HW8⟩
      case round =>
        obtain ⟨j, hj, rfl, HI2⟩ := hrel
        obtain ⟨wr2, hwr2⟩ : ∃ w, w = wr := ⟨_, rfl⟩
        rw [← hwr2] at HI2 ⊢
        clear hwr2
        by_cases hjl : j < 2
        · have hji : (j : Int) < 2 := by omega
          have hxc := unhide HXC j hjl
          have hix1 := ixT1 N k hlt
          have hix2 := ixT2 N (2 * k) j hjl
          have HO2 : Hid (2 * k + j < 10) := by show 2 * k + j < 10; omega
          have HGET := hide (tjp_get (unhide HLA) (unhide HLB) (unhide HO2))
          have HSET := hide (tjp_set (unhide HLA) (unhide HLB) (unhide HO2))
          have HLEN : Hid ((tjp ta tb (2 * k + j + 1)).length = 10) := tjp_len (unhide HLA) (unhide HLB) (by have := unhide HO2; omega)
          have HJ1 : Hid (2 * k + j + 1 = 2 * k + (j + 1)) := by show _ = _; omega
          generalize tb.getD (2 * k + j) 0 = q at *
          generalize ta.getD (2 * k + j) 0 = p at *
          have hmx : (if p < q then (q : Int) else (p : Int)) = ((max p q : Nat) : Int) := by split <;> omega
          generalize max p q = mx at *
          obtain ⟨L1, hL1⟩ : ∃ l, l = tjp ta tb (2 * k + j + 1) := ⟨_, rfl⟩
          have HL1 : Hid (tjp ta tb (2 * k + j + 1) = L1) := hL1.symm
          rw [← hL1] at HSET HLEN
          clear hL1
          generalize hL0 : tjp ta tb (2 * k + j) = L0 at *
          generalize ho2 : 2 * k + j = o2 at *
          generalize ho1 : 2 * k = o1 at *
          go_wp2_with fail
          refine wp_region_last (fun v => v.cell? ⟨N, o2, none⟩ = some (.int .u16 (p : Int))) 11 hmix ((unhide HI2).drew.cell (unhide HGET)) fun hS => ?_
          have HQ0 := hide ((unhide HI2).drew)
          generalize wr2.drew = Z0 at hS HQ0 ⊢
          refine wpAnyL_take 0 19 (.int .i64 (k : Int)) [] rfl rfl (by kernel_rfl) (by kernel_rfl) (by kernel_rfl) (by kernel_rfl) (by kernel_rfl) (fun _ _ _ h => h) (by rfl) (fun _ _ => by go_simp) hS ?_
          simp only [Act.put, List.setIfInBounds_toArray, List.set_cons_zero, List.set_cons_succ]
          refine wpAnyL_take 1 20 (.int .i64 (j : Int)) [] rfl rfl (by kernel_rfl) (by kernel_rfl) (by kernel_rfl) (by kernel_rfl) (by kernel_rfl) (fun _ _ _ h => h) (by rfl) (fun _ _ => by go_simp) hS ?_
          simp only [Act.put, List.setIfInBounds_toArray, List.set_cons_zero, List.set_cons_succ]
          refine wpAnyL_take 2 21 (.int .i64 (k : Int)) [] rfl rfl (by kernel_rfl) (by kernel_rfl) (by kernel_rfl) (by kernel_rfl) (by kernel_rfl) (fun _ _ _ h => h) (by rfl) (fun _ _ => by go_simp) hS ?_
          simp only [Act.put, List.setIfInBounds_toArray, List.set_cons_zero, List.set_cons_succ]
          refine wpAnyL_take 3 22 (.int .i64 (j : Int)) [] rfl rfl (by kernel_rfl) (by kernel_rfl) (by kernel_rfl) (by kernel_rfl) (by kernel_rfl) (fun _ _ _ h => h) (by rfl) (fun _ _ => by go_simp) hS ?_
          simp only [Act.put, List.setIfInBounds_toArray, List.set_cons_zero, List.set_cons_succ]
          refine wpAnyL_take 4 23 (.pointer (some ⟨N, o1, none⟩)) [] rfl rfl (by kernel_rfl) (by kernel_rfl) (by kernel_rfl) (by kernel_rfl) (by kernel_rfl) (fun _ _ _ h => h) (by rfl) (fun _ _ => by go_simp) hS ?_
          simp only [Act.put, List.setIfInBounds_toArray, List.set_cons_zero, List.set_cons_succ]
          refine wpAnyL_take 5 24 (.pointer (some ⟨N, o2, none⟩)) [] rfl rfl (by kernel_rfl) (by kernel_rfl) (by kernel_rfl) (by kernel_rfl) (by kernel_rfl) (fun _ _ _ h => h) (by rfl) (fun _ _ => by go_simp) hS ?_
          simp only [Act.put, List.setIfInBounds_toArray, List.set_cons_zero, List.set_cons_succ]
          refine wpAnyL_take 6 25 (.int .u16 (p : Int)) [] rfl rfl (by kernel_rfl) (by kernel_rfl) (by kernel_rfl) (by kernel_rfl) (by kernel_rfl) (fun _ _ _ h => h) (by rfl) (fun v hv => by have e1 := hv; go_simp) hS ?_
          simp only [Act.put, List.setIfInBounds_toArray, List.set_cons_zero, List.set_cons_succ]
          refine wpAnyL_take 7 26 (.int .u16 (q : Int)) [] rfl rfl (by kernel_rfl) (by kernel_rfl) (by kernel_rfl) (by kernel_rfl) (by kernel_rfl) (fun _ _ _ h => h) (by rfl) (fun _ _ => by go_simp) hS ?_
          simp only [Act.put, List.setIfInBounds_toArray, List.set_cons_zero, List.set_cons_succ]
          refine wpAnyL_take 8 27 (.int .u16 (mx : Int)) [] rfl rfl (by kernel_rfl) (by kernel_rfl) (by kernel_rfl) (by kernel_rfl) (by kernel_rfl) (fun _ _ _ h => h) (by rfl) (fun _ _ => by go_simp) hS ?_
          simp only [Act.put, List.setIfInBounds_toArray, List.set_cons_zero, List.set_cons_succ]
          refine wpAnyL_take 9 28 (.pointer (some ⟨N, o1, none⟩)) [10] rfl rfl (by kernel_rfl) (by kernel_rfl) (by kernel_rfl) (by kernel_rfl) (by kernel_rfl) (fun _ _ _ h => h) (by rfl) (fun _ _ => by go_simp) hS ?_
          simp only [Act.put, List.setIfInBounds_toArray, List.set_cons_zero, List.set_cons_succ]
          refine wpAnyL_take 10 29 (.pointer (some ⟨N, o2, none⟩)) [] rfl rfl (by kernel_rfl) (by kernel_rfl) (by kernel_rfl) (by kernel_rfl) (by kernel_rfl) (fun _ _ _ h => h) (by rfl) (fun _ _ => by go_simp) hS ?_
          simp only [Act.put, List.setIfInBounds_toArray, List.set_cons_zero, List.set_cons_succ]
          refine wpAnyL_one (i := 11) (by kernel_rfl) rfl (by rfl) fun K hK => ?_
          refine wp_store_iv 71 (.tmp 29) (.tmp 27) (by rfl) (by rfl) N o2 .u16 (mx : Int) (by rfl) (by rfl) ((unhide HQ0).there (unhide HO2)) (by kernel_rfl) ?_
          have HQ1 := hide ((unhide HQ0).set (unhide HSET) (unhide HLEN))
          generalize Z0.setCell ⟨N, o2, none⟩ (.int .u16 (mx : Int)) = Z1 at HQ1 ⊢
          refine hK _ _ (fun h => absurd rfl h) ?_
          clear hK K
          refine wpAnyL_done (by kernel_rfl) ?_ _
          go_wp2
          go_roundw
          case rel => exact ⟨j + 1, by omega, by go_num, by rw [← unhide HJ1, unhide HL1]; exact unhide HQ1⟩
          case measure => simp [intOf]; omega
        · obtain rfl : j = 2 := by omega
          have hji : ¬ (2 : Int) < 2 := by omega
          go_wp2
          go_roundw
          case rel => exact ⟨k + 1, by omega, by go_num, by rw [show 2 * (k + 1) = 2 * k + 2 by omega]; exact unhide HI2⟩
          case measure => simp [intOf]; omega
    · obtain rfl : k = 5 := by omega
      have hki : ¬ (5 : Int) < 5 := by omega
      have HI2 : Hid (Tj u wr N (tjn ta tb)) := by have := unhide HI; rw [tjp_ten (unhide HLA) (unhide HLB)] at this; exact this
      have HZ1 : Hid ((Try.prog.info? 75).map (·.size) = some (taC (tjn ta tb)).toArray.size) := by rw [show (taC (tjn ta tb)).toArray.size = 10 by simp [taC_len, (unhide HI2).len]]; exact taInfo
      have HZ2 : Hid ((taC ta0).toArray.size = (taC (tjn ta tb)).toArray.size) := by show _ = _; simp [taC_len, (unhide HI2).len, ta0]
      have HZ3 : Hid ((taC (tjn ta tb)).toArray.all (·.oneCell') = true) := by
        rw [Array.all_eq_true']
        intro v hv
        exact taC_one _ v (by simpa using hv)
      have HROW : Hid (wr.heap[N]? = some (.cells (taC (tjn ta tb)).toArray 75 (0, 0))) := (unhide HI2).row
      have HRES : Hid (wr.heap[N + 1 + 1]? = some (.cells (taC ta0).toArray 75 (0, 0))) := (unhide HI2).res
      clear HI
      generalize hTJ : (taC (tjn ta tb)).toArray = TJ at *
      have HTJ := hide hTJ
      clear hTJ
      generalize (taC ta0).toArray = TZ at *
      go_wp2_with (first
        | ((with_reducible refine wpList_load_row (by rfl) _ (.tmp 2) (by rfl) N (by with_unfolding_all rfl) _ _ _ _ (unhide HROW) Try.underlying75 rfl (unhide HZ1) ?_); simp only [Act.put, List.setIfInBounds_toArray, List.set_cons_zero, List.set_cons_succ])
        | ((with_reducible refine wpList_store_hid (by rfl) 75 (.tmp 4) (.tmp 32) (by rfl) (N + 1 + 1) TJ (by with_unfolding_all rfl) (by with_unfolding_all rfl) _ _ (unhide HRES) (unhide HZ1) (unhide HZ2) (unhide HZ3) ?_); intro W9 HX9 HE9; simp only [Act.put])
        | fail)
      refine bodyPost_ret (results_cell_row rfl _ _ (N + 1 + 1) 75 TJ (0, 0) _ rfl (unhide HX9) Try.underlying75 rfl (unhide HZ1)) rfl ?_
      exact ⟨by rw [unhide HTJ], by rw [unhide HE9]; exact belowRow (unhide HI2).bl (by omega) _⟩
end Go.Proofs.Ytpepgealeanecaa
