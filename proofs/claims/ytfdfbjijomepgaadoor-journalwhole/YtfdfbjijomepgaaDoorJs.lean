/- The journal: no device; a batch that was found is the one that was put. -/
import Derived.Test.YtfdfbjijomepgaaDoorJr
namespace Go.Proofs.YtfdfbjijomepgaaDoor
open Go.RowKit

theorem kPagesNo (w : World) : Calls Tryd.prog 108 #[.pointer none] w fun e w' => e = .returned (.int .i64 0) ∧ w' = w := by
  go_enter Tryd.func108, Tryd.ntmps108
  go_wp2
  go_ret
  exact ⟨rfl, rfl⟩
theorem jRefusedNo (w : World) : Calls Tryd.prog 28 #[.iface 50 (.pointer none), .int .i64 0, .int .i64 1] w fun e w' => e = .returned (.int .i64 1) ∧ w' = w := by
  go_enter Tryd.func28, Tryd.ntmps28
  go_wp2_with (go_at_call 108; refine (kPagesNo _).mono ?_; rintro e w1 ⟨rfl, hw⟩; obtain rfl := hw.symm; clear hw)
  go_ret
  exact ⟨rfl, rfl⟩
theorem jScanBad (dv : Value) (f c : Int) (x : Int) (hx : ¬ x = 0) (w : World) (hs : ∀ u, Calls Tryd.prog 28 #[dv, .int .i64 f, .int .i64 c] u fun e w' => e = .returned (.int .i64 x) ∧ w' = u) :
    Calls Tryd.prog 12 #[dv, .int .i64 f, .int .i64 c] w fun e w' => e = .returned (.tuple #[.agg #[.int .u64 0, .bool false, .int .u64 0, .slice none 0 0], .int .i64 x]) ∧ Below w.heap.size w w' := by
  obtain ⟨N, hN⟩ : ∃ N, N = w.heap.size := ⟨_, rfl⟩
  have HN := hide hN
  have HS := hide hs
  rw [← hN]
  clear hN hs
  go_enter Tryd.func12, Tryd.ntmps12
  go_wp2_with (first
    | (refine wpList_alloc_row (by rfl) 44 (by rfl) (some 6) (by rfl) N (by exact (unhide HN).symm) _ zeroFound ?_; intro W1 HX1 HB1 HS1; simp only [Act.put, List.setIfInBounds_toArray, List.set_cons_zero, List.set_cons_succ])
    | (go_at_call 28; refine (unhide HS _).mono ?_; rintro e w1 ⟨rfl, hw⟩; obtain rfl := hw.symm; clear hw)
    | (refine wpList_store_hid (by rfl) 44 (.tmp 6) (.tmp 27) (by rfl) N #[.int .u64 0, .bool false, .int .u64 0, .slice none 0 0] (by rfl) (by rfl) 44 _ (unhide HX1) foundInfo rfl (found_one _ _ _ _ _ _) ?_; intro W4 HX4 HE4; simp only [Act.put]))
  refine bodyPost_ret (results_cell_tmp rfl _ _ N 44 #[.int .u64 0, .bool false, .int .u64 0, .slice none 0 0] (0, 0) _ rfl (unhide HX4) foundUnd rfl foundInfo) rfl ?_
  refine ⟨rfl, ?_⟩
  rw [unhide HE4]
  exact belowRow (unhide HB1) (Nat.le_refl _) _
theorem jPutNo (w : World) : Calls Tryd.prog 8 #[.nilIface, .int .i64 0, .int .i64 4, .int .u64 1, .slice none 0 0] w fun e w' => e = .returned (.int .i64 2) ∧ Below w.heap.size w w' := by
  have hb : Below w.heap.size w ((w.alloc (.cells #[.nilIface] 80)).alloc (.cells #[.int .u64 1] 22)) := ((Below.refl _ w).alloc (Nat.le_refl _) _).alloc (by simp) _
  have HB := hide hb
  have zd := ((Bx.new w 80 .nilIface).alloc (.cells #[.int .u64 1] 22)).cell
  clear hb
  go_enter Tryd.func8, Tryd.ntmps8
  go_wp2_with (go_at_call 28; refine (jRefusedNil _ _ _).mono ?_; rintro e w1 ⟨rfl, hw⟩; obtain rfl := hw.symm; clear hw)
  go_ret
  exact ⟨rfl, unhide HB⟩
set_option maxRecDepth 100000 in
set_option maxHeartbeats 2000000 in
theorem lIsT (tp s : Nat) (l : List Pg) (hn : l.length ≤ 4096) (G : Nat) (bo : Option Addr) (cb : Nat) (w : World) (hG : Pgs w (some ⟨G, 0, none⟩) (withSer s l)) (hl : Pgs w bo l) :
    Calls Tryd.prog 22 #[.agg #[.int .u64 (tp : Int), .bool true, .int .u64 (s : Int), .slice (some ⟨G, 0, none⟩) l.length l.length], .int .u64 (s : Int), .slice bo l.length cb] w fun e w' => e = .returned (.bool true) ∧ Below w.heap.size w w' := by
  obtain ⟨N, hN⟩ : ∃ N, N = w.heap.size := ⟨_, rfl⟩
  have HN := hide hN
  obtain ⟨n, hnn⟩ : ∃ n, n = l.length := ⟨_, rfl⟩
  have HNN := hide hnn
  have HG := hide hG
  have HL := hide hl
  have hni : (n : Int) ≤ 4096 := by omega
  rw [← hN, ← hnn]
  clear hN hnn hG hl hn
  go_enter Tryd.func22, Tryd.ntmps22
  go_wp2_with (first
    | (refine wpList_box_row (by rfl) 44 (.tmp 0) (by rfl) (some 3) (by rfl) N (by exact (unhide HN).symm) #[.int .u64 (tp : Int), .bool true, .int .u64 (s : Int), .slice (some ⟨G, 0, none⟩) n n] (by rfl) ?_; intro W1 HX1 HB1 HS1; simp only [Act.put, List.setIfInBounds_toArray, List.set_cons_zero, List.set_cons_succ]; have c1 : W1.cell? ⟨N, 1, none⟩ = some (.bool true) := (by rw [cell_of_row W1 N 1 _ _ _ (unhide HX1)]; rfl); have c2 : W1.cell? ⟨N, 2, none⟩ = some (.int .u64 (s : Int)) := (by rw [cell_of_row W1 N 2 _ _ _ (unhide HX1)]; rfl); have c3 : W1.cell? ⟨N, 3, none⟩ = some (.slice (some ⟨G, 0, none⟩) n n) := (by rw [cell_of_row W1 N 3 _ _ _ (unhide HX1)]; rfl)))
  have HI0 : Hid (W1.heap[N]? = some (.cells #[.int .u64 (tp : Int), .bool true, .int .u64 (s : Int), .slice (some ⟨G, 0, none⟩) n n] 44 (0, 0)) ∧ Below N w W1) := ⟨unhide HX1, unhide HB1⟩
  clear HX1 HB1 HS1 c1 c2 c3
  go_loopw [7] (fun i wr => ∃ k : Nat, k ≤ n ∧ i = .int .i64 k ∧ Hid (wr.heap[N]? = some (.cells #[.int .u64 (tp : Int), .bool true, .int .u64 (s : Int), .slice (some ⟨G, 0, none⟩) n n] 44 (0, 0)) ∧ Below N w wr)) (fun i _ => n - (intOf i).toNat)
  case atStart => exact ⟨0, Nat.zero_le _, rfl, unhide HI0⟩
  case round =>
    clear HI0
    obtain ⟨k, hk, rfl, HI⟩ := hrel
    by_cases hlt : k < n
    · have hki : (k : Int) < (n : Int) := by omega
      have hkl : k < l.length := by rw [← unhide HNN]; exact hlt
      have hkw : k < (withSer s l).length := by rw [withSer, List.length_map]; exact hkl
      have hbw : Below w.heap.size w wr := by rw [← unhide HN]; exact (unhide HI).2
      obtain ⟨g, o, hao, hrange, hgl⟩ := ((unhide HG).below hbw).slot k hkw
      cases hao
      rw [Nat.zero_add] at hrange
      obtain ⟨g2, o2, hbo2, hr2, hgl2⟩ := ((unhide HL).below hbw).slot k hkl
      subst hbo2
      have e1 : slotD (withSer s l) k = ⟨l[k].kind, l[k].num, s, l[k].body⟩ := by rw [slotD, List.getD_eq_getElem?_getD, withSer, List.getElem?_map, List.getElem?_eq_getElem hkl]; rfl
      have e2 : slotD l k = l[k] := by rw [slotD, List.getD_eq_getElem?_getD, List.getElem?_eq_getElem hkl]; rfl
      rw [e1] at hrange
      rw [e2] at hr2
      have hix := ixPages G 0 n n k hlt
      rw [Nat.zero_add] at hix
      have hix2 := ixPages g2 o2 n cb k hlt
      generalize l[k] = q at *
      obtain ⟨qk, qn, qs, qb⟩ := q
      obtain ⟨C, hC⟩ : ∃ C, C = (⟨qk, qn, s, qb⟩ : Pg).cs := ⟨_, rfl⟩
      rw [← hC] at hrange
      have HRS := hide hrange
      have HSI : Hid ((Tryd.prog.info? 70).map (·.size) = some C.toList.length ∧ (Tryd.prog.info? 70).map (·.size) = some C.size ∧ C.all (·.oneCell') = true ∧ 4 = C.size) := by rw [hC]; exact ⟨pgInfo, pgInfo, by simp [Pg.cs, Value.oneCell'], rfl⟩
      have HC0 : Hid (C[0]? = some (.int .u8 (qk : Int)) ∧ C[1]? = some (.int .u32 (qn : Int)) ∧ C[2]? = some (.int .u64 (s : Int)) ∧ C[3]? = some (.string qb)) := by rw [hC]; exact ⟨rfl, rfl, rfl, rfl⟩
      obtain ⟨M, hM⟩ : ∃ M, M = wr.heap.size := ⟨_, rfl⟩
      have HM := hide hM
      have c3 : wr.cell? ⟨N, 3, none⟩ = some (.slice (some ⟨G, 0, none⟩) n n) := by rw [cell_of_row wr N 3 _ _ _ (unhide HI).1]; rfl
      have HGL : Hid (g2 < M ∧ N < M) := ⟨by rw [hM]; exact hgl2, by rw [hM]; exact (Array.getElem?_eq_some_iff.1 (unhide HI).1).1⟩
      have y0 : wr.cell? ⟨g2, o2 + k * 4, none⟩ = some (.int .u8 (qk : Int)) := hr2 0 _ rfl
      have y1 : wr.cell? ⟨g2, o2 + k * 4 + 1, none⟩ = some (.int .u32 (qn : Int)) := hr2 1 _ rfl
      have y3 : wr.cell? ⟨g2, o2 + k * 4 + 3, none⟩ = some (.string qb) := hr2 3 _ rfl
      generalize k * 4 = j4 at *
      generalize o2 + j4 = j5 at *
      clear hrange hr2 e1 e2 hC hM hgl hgl2 hkw hbw
      go_wp2_with (first
        | (refine wpList_load_mid (by rfl) 70 (.tmp 35) (by rfl) G j4 (by rfl) C.toList _ (unhide HRS) pgUnd rfl (unhide HSI).1 ?_; simp only [Act.put, List.setIfInBounds_toArray, List.set_cons_zero, List.set_cons_succ, Array.toArray_toList])
        | (refine wpList_alloc_row (by rfl) 70 (by rfl) (some 8) (by rfl) M (by exact (unhide HM).symm) _ zeroPg ?_; intro W4 HX4 HB4 HS4; simp only [Act.put, List.setIfInBounds_toArray, List.set_cons_zero, List.set_cons_succ])
        | (refine wpList_store_hid (by rfl) 70 (.tmp 8) (.tmp 36) (by rfl) M C (by rfl) (by rfl) 70 _ (unhide HX4) (unhide HSI).2.1 (unhide HSI).2.2.2 (unhide HSI).2.2.1 ?_; intro W5 HX5 HE5; simp only [Act.put]
           have HB5 : Hid (Below M wr W5) := (by rw [unhide HE5]; exact belowRow (unhide HB4) (Nat.le_refl _) _)
           have z0 : W5.cell? ⟨M, 0, none⟩ = some (.int .u8 (qk : Int)) := (by rw [cell_of_row W5 M 0 _ _ _ (unhide HX5)]; exact (unhide HC0).1)
           have z1 : W5.cell? ⟨M, 1, none⟩ = some (.int .u32 (qn : Int)) := (by rw [cell_of_row W5 M 1 _ _ _ (unhide HX5)]; exact (unhide HC0).2.1)
           have z2 : W5.cell? ⟨M, 2, none⟩ = some (.int .u64 (s : Int)) := (by rw [cell_of_row W5 M 2 _ _ _ (unhide HX5)]; exact (unhide HC0).2.2.1)
           have z3 : W5.cell? ⟨M, 3, none⟩ = some (.string qb) := (by rw [cell_of_row W5 M 3 _ _ _ (unhide HX5)]; exact (unhide HC0).2.2.2)
           have x0 := ((unhide HB5).cell (p := ⟨g2, j5, none⟩) (unhide HGL).1).trans y0
           have x1 := ((unhide HB5).cell (p := ⟨g2, j5 + 1, none⟩) (unhide HGL).1).trans y1
           have x3 := ((unhide HB5).cell (p := ⟨g2, j5 + 3, none⟩) (unhide HGL).1).trans y3))
      clear y0 y1 y3 c3
      have HI5 : Hid (W5.heap[N]? = some (.cells #[.int .u64 (tp : Int), .bool true, .int .u64 (s : Int), .slice (some ⟨G, 0, none⟩) n n] 44 (0, 0)) ∧ Below N w W5) := ⟨((unhide HB5).block N (unhide HGL).2).trans (unhide HI).1, (unhide HI).2.trans ((unhide HB5).mono (by have := (unhide HGL).2; omega))⟩
      go_quiet (fail)
      go_wp2
      go_roundw
      case rel => exact ⟨k + 1, by omega, by go_num, (unhide HI5).1, belowDN (unhide HI5).2 _⟩
      case measure => simp [intOf]; omega
    · have hkk : k = n := by omega
      subst hkk
      have hki : ¬ (k : Int) < (k : Int) := by omega
      go_wp2
      go_ret
      exact ⟨rfl, (unhide HI).2⟩
end Go.Proofs.YtfdfbjijomepgaaDoor
