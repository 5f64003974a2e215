/- States: Same, and what was not seen. -/
import Derived.Test.YtbahfpcfjhifbaaYg
namespace Go.Proofs.Ytbahfpcfjhifbaa
open Go.RowKit Go.Lib
open Classical in
noncomputable def sameB (a b : St) : Bool := decide (a = b)
open Classical in
theorem sameB_eq (a b : St) : sameB a b = (decide (a.seen = b.seen) && eqL a.sibs b.sibs) := by
  unfold sameB eqL
  rw [Bool.eq_iff_iff, Bool.and_eq_true, decide_eq_true_iff, decide_eq_true_iff, decide_eq_true_iff]
  constructor
  · rintro rfl; exact ⟨rfl, rfl⟩
  · rintro ⟨h1, h2⟩; cases a; cases b; simp_all
theorem kEqualD {W0 : World} {a b : List (Nat × Nat)} {xa xb : Option Addr} {ca cb na nb : Nat} (r : Bool) (hr : decide (a = b) = r) (ea : na = a.length) (eb : nb = b.length) (ha : Da W0 a xa ca) (hb : Da W0 b xb cb) (W : World) (hW : Below W0.heap.size W0 W) : Calls Try.prog 46 #[.slice xa na ca, .slice xb nb cb] W fun e W' => e = .returned (.bool r) ∧ Below W0.heap.size W0 W' := by
  subst hr ea eb
  refine (vEqual a b xa xb ca cb W (ha.below hW).at (hb.below hW).at).mono ?_
  rintro e W' ⟨h1, z, rfl⟩
  exact ⟨h1, belowDrewN hW _⟩
theorem kEqualS {W0 : World} {a b : List Sb} {xa xb : Option Addr} {ca cb na nb : Nat} (r : Bool) (hr : eqL a b = r) (ea : na = a.length) (eb : nb = b.length) (ha : Sa W0 a xa ca) (hb : Sa W0 b xb cb) (W : World) (hW : Below W0.heap.size W0 W) : Calls Try.prog 47 #[.slice xa na ca, .slice xb nb cb] W fun e W' => e = .returned (.bool r) ∧ Below W0.heap.size W0 W' := by
  subst hr ea eb
  refine (dEqualS a b xa xb ca cb W (ha.below hW) (hb.below hW)).mono ?_
  rintro e W' ⟨h1, z, rfl⟩
  exact ⟨h1, belowDrewN hW _⟩
set_option maxRecDepth 100000 in
set_option maxHeartbeats 2000000 in
theorem dSame (a b : St) (v w : Sv) (u : World) (ha : SAt u a v) (hb : SAt u b w) : Calls Try.prog 17 #[v.v a.seen.length a.sibs.length, w.v b.seen.length b.sibs.length] u fun e u' => e = .returned (.bool (sameB a b)) ∧ Below u.heap.size u u' := by
  obtain ⟨N, hN⟩ : ∃ N, N = u.heap.size := ⟨_, rfl⟩
  have HN := hide hN
  have HA := hide ha
  have HB := hide hb
  rw [← hN, sameB_eq]
  clear hN ha hb
  obtain ⟨n1, hn1⟩ : ∃ n, n = a.seen.length := ⟨_, rfl⟩
  obtain ⟨m1, hm1⟩ : ∃ n, n = a.sibs.length := ⟨_, rfl⟩
  obtain ⟨n2, hn2⟩ : ∃ n, n = b.seen.length := ⟨_, rfl⟩
  obtain ⟨m2, hm2⟩ : ∃ n, n = b.sibs.length := ⟨_, rfl⟩
  have E1 := hide hn1
  have E2 := hide hm1
  have E3 := hide hn2
  have E4 := hide hm2
  rw [← hn1, ← hm1, ← hn2, ← hm2]
  clear hn1 hm1 hn2 hm2
  have HK1 : Hid (∀ W0 : World, SAt W0 a v → SAt W0 b w → ∀ r, decide (a.seen = b.seen) = r → Calls Try.prog 46 #[.slice v.sa n1 v.sc, .slice w.sa n2 w.sc] W0 fun e W' => e = .returned (.bool r) ∧ Below W0.heap.size W0 W') := fun W0 h1 h2 r hr => kEqualD r hr (unhide E1) (unhide E3) h1.seen h2.seen W0 (Below.refl _ _)
  have HK2 : Hid (∀ W0 : World, SAt W0 a v → SAt W0 b w → ∀ r, eqL a.sibs b.sibs = r → Calls Try.prog 47 #[.slice v.ba m1 v.bc, .slice w.ba m2 w.bc] W0 fun e W' => e = .returned (.bool r) ∧ Below W0.heap.size W0 W') := fun W0 h1 h2 r hr => kEqualS r hr (unhide E2) (unhide E4) h1.sibs h2.sibs W0 (Below.refl _ _)
  generalize decide (a.seen = b.seen) = r1 at *
  generalize eqL a.sibs b.sibs = r2 at *
  cases r1
  · go_enter Try.func17, Try.ntmps17
    go_wp2_with (first
      | ((with_reducible refine wpList_box_state (by rfl) (.tmp 0) (by rfl) (some 2) (by rfl) N (unhide HN) v n1 m1 (by with_unfolding_all rfl) ?_); intro W1 HX1 HB1 HS1; simp only [Act.put, List.setIfInBounds_toArray, List.set_cons_zero, List.set_cons_succ])
      | ((with_reducible refine wpList_box_state (by rfl) (.tmp 1) (by rfl) (some 3) (by rfl) (N + 1) (unhide HS1).symm w n2 m2 (by with_unfolding_all rfl) ?_); intro W2 HX2 HB2 HS2; simp only [Act.put, List.setIfInBounds_toArray, List.set_cons_zero, List.set_cons_succ]; have HY1 : Hid (W2.heap[N]? = some (stRow v n1 m1)) := ((unhide HB2).block N (Nat.lt_succ_self _)).trans (unhide HX1); have HBU : Hid (Below N u W2) := (unhide HB1).trans ((unhide HB2).mono (Nat.le_succ _)); have HA2 := hide ((unhide HA).below (by rw [← unhide HN]; exact unhide HBU)); have HB3 := hide ((unhide HB).below (by rw [← unhide HN]; exact unhide HBU)); obtain ⟨x0, x1⟩ := st_cells (unhide HY1); obtain ⟨y0, y1⟩ := st_cells (unhide HX2))
      | (go_at_call 46; refine (unhide HK1 W2 (unhide HA2) (unhide HB3) _ rfl).mono ?_; rintro e w3 ⟨rfl, hb3⟩)
      | fail)
    go_ret
    exact ⟨rfl, (unhide HBU).trans (hb3.mono (by rw [unhide HS2]; omega))⟩
  · go_enter Try.func17, Try.ntmps17
    go_wp2_with (first
      | ((with_reducible refine wpList_box_state (by rfl) (.tmp 0) (by rfl) (some 2) (by rfl) N (unhide HN) v n1 m1 (by with_unfolding_all rfl) ?_); intro W1 HX1 HB1 HS1; simp only [Act.put, List.setIfInBounds_toArray, List.set_cons_zero, List.set_cons_succ])
      | ((with_reducible refine wpList_box_state (by rfl) (.tmp 1) (by rfl) (some 3) (by rfl) (N + 1) (unhide HS1).symm w n2 m2 (by with_unfolding_all rfl) ?_); intro W2 HX2 HB2 HS2; simp only [Act.put, List.setIfInBounds_toArray, List.set_cons_zero, List.set_cons_succ]; have HY1 : Hid (W2.heap[N]? = some (stRow v n1 m1)) := ((unhide HB2).block N (Nat.lt_succ_self _)).trans (unhide HX1); have HBU : Hid (Below N u W2) := (unhide HB1).trans ((unhide HB2).mono (Nat.le_succ _)); have HA2 := hide ((unhide HA).below (by rw [← unhide HN]; exact unhide HBU)); have HB3 := hide ((unhide HB).below (by rw [← unhide HN]; exact unhide HBU)); obtain ⟨x0, x1⟩ := st_cells (unhide HY1); obtain ⟨y0, y1⟩ := st_cells (unhide HX2))
      | (go_at_call 46; refine (unhide HK1 W2 (unhide HA2) (unhide HB3) _ rfl).mono ?_; rintro e w3 ⟨rfl, hb3⟩; have HB4 := hide hb3; clear hb3; obtain ⟨x0, x1⟩ := st_cells (box_below (unhide HY1) (unhide HB4)); obtain ⟨y0, y1⟩ := st_cells (box_below (unhide HX2) (unhide HB4)))
      | (go_at_call 47; refine (unhide HK2 w3 ((unhide HA2).below (unhide HB4)) ((unhide HB3).below (unhide HB4)) _ rfl).mono ?_; rintro e w4 ⟨rfl, hb5⟩)
      | fail)
    go_ret
    exact ⟨by simp, (unhide HBU).trans (((unhide HB4).trans (hb5.mono (unhide HB4).size)).mono (by rw [unhide HS2]; omega))⟩
theorem uns_take (A : List (Nat × Nat)) {l : List Sb} {k : Nat} (h : k < l.length) : uns A (l.take (k + 1)) = uns A (l.take k) ++ (if cov A l[k].dot then [] else [l[k]]) := by
  unfold uns
  rw [List.take_succ_eq_append_getElem h, List.filter_append]
  congr 1
  by_cases hc : cov A l[k].dot
  · rw [if_pos hc]; simp [hc]
  · rw [if_neg hc]; simp [hc]
set_option maxRecDepth 100000 in
set_option maxHeartbeats 4000000 in
/-- what was not seen is laid behind a row of one's own -/
theorem dUnseen (acc l : List Sb) (A : List (Nat × Nat)) (n1 n2 n3 : Nat) (e1 : n1 = acc.length) (e2 : n2 = l.length) (e3 : n3 = A.length) (xo lo so : Option Addr) (c1 c2 c3 : Nat) (W0 u : World) (hA : V.Ok A) (hs : Da W0 A so c3) (hl : Dw W0 l lo c2)
    (hb : Below W0.heap.size W0 u) (ho : OwnS u W0.heap.size acc xo c1) (hlen : acc.length + l.length ≤ 1000) :
    Calls Try.prog 78 #[.slice xo n1 c1, .slice lo n2 c2, .slice so n3 c3] u fun e u' => ∃ xo' n' c', e = .returned (.slice xo' n' c') ∧ n' = (acc ++ uns A l).length ∧ OwnS u' W0.heap.size (acc ++ uns A l) xo' c' ∧ Below W0.heap.size W0 u' := by
  obtain ⟨B, hB⟩ : ∃ B, B = W0.heap.size := ⟨_, rfl⟩
  have HB := hide hB
  have HS := hide hs
  have HL := hide hl
  have HLEN := hide hlen
  have E1 := hide e1
  have E2 := hide e2
  have E3 := hide e3
  have HB0 := hide hb
  have HO := hide ho
  rw [← hB] at HB0 HO ⊢
  have HSZ : Hid (∀ W : World, Below B W0 W → B ≤ W.heap.size) := fun W hW => by rw [unhide HB]; exact hW.size
  have h2i : (n2 : Int) ≤ 1000 := by omega
  have HC : Hid (∀ (W : World) (x : Sb) (r : Bool), Below B W0 W → (r = true ↔ cov A x.dot) → Calls Try.prog 35 #[.slice so n3 c3, .agg #[.int .u32 (x.a : Int), .int .u64 (x.c : Int)]] W fun e W' => e = .returned (.bool r) ∧ Below W.heap.size W W') := fun W x r hW hr =>
    kCovers x.a x.c r (by rw [covB_ok hA, Bool.eq_iff_iff, decide_eq_true_eq, hr]; exact Iff.rfl) (unhide E3) ((unhide HS).below (by rw [← unhide HB]; exact hW)) W (Below.refl _ _)
  clear hB hs hl hlen e1 e2 e3 hb ho HS
  go_enter Try.func78, Try.ntmps78
  go_wp2
  go_loopw [0, 11] (fun out i wr => ∃ (k : Nat) (xp : Option Addr) (np cp : Nat), k ≤ n2 ∧ out = .slice xp np cp ∧ i = .int .i64 k ∧ Hid (np = (acc ++ uns A (l.take k)).length ∧ OwnS wr B (acc ++ uns A (l.take k)) xp cp ∧ Below B W0 wr)) (fun _ i _ => n2 - (intOf i).toNat)
  case atStart => exact ⟨0, xo, n1, c1, Nat.zero_le _, rfl, rfl, by rw [List.take_zero, show uns A [] = [] from rfl, List.append_nil]; exact unhide E1, by rw [List.take_zero, show uns A [] = [] from rfl, List.append_nil]; exact unhide HO, unhide HB0⟩
  case round =>
    obtain ⟨k, xp, np, cp, hk, rfl, rfl, HI⟩ := hrel
    by_cases hlt : k < n2
    · have hki : (k : Int) < (n2 : Int) := by omega
      have hkl : k < l.length := by rw [← unhide E2]; exact hlt
      obtain ⟨g, o, hao, x1, x2, x3, x4⟩ := ((unhide HL).lies.below (by rw [← unhide HB]; exact (unhide HI).2.2)).sb hkl
      subst hao
      have hix := ixS g o n2 c2 k hlt
      obtain ⟨M, hM⟩ : ∃ M, M = wr.heap.size := ⟨_, rfl⟩
      have HM := hide hM
      clear hM
      have HT := hide (uns_take A hkl)
      have HLM : Hid ((acc ++ uns A (l.take k)).length + 1 ≤ 1000) := by
        have := uns_len A (l.take k)
        rw [List.length_take] at this
        have := unhide HLEN
        show (acc ++ uns A (l.take k)).length + 1 ≤ 1000
        rw [List.length_append]; omega
      generalize l[k] = q at *
      have x1 : wr.cell? ⟨g, o + k * 4, none⟩ = some (.int .u32 (q.a : Int)) := x1
      have x2 : wr.cell? ⟨g, o + k * 4 + 1, none⟩ = some (.int .u64 (q.c : Int)) := x2
      have x3 : wr.cell? ⟨g, o + k * 4 + 2, none⟩ = some (.bool q.gone) := x3
      have x4 : wr.cell? ⟨g, o + k * 4 + 3, none⟩ = some (.string q.val) := x4
      generalize o + k * 4 = oo at *
      generalize uns A (l.take k) = lk at *
      by_cases hcv : cov A q.dot
      · rw [if_pos hcv, List.append_nil] at HT
        have HCC := hide (fun W hW => unhide HC W q true hW (by simp [hcv]))
        clear hcv
        go_wp2_with (first
          | ((with_reducible refine wpList_alloc_sib (by rfl) (by rfl) (some 8) (by rfl) M (unhide HM) ?_); intro W2 HX2 HB2 HS2; simp only [Act.put, List.setIfInBounds_toArray, List.set_cons_zero, List.set_cons_succ])
          | ((with_reducible refine wpList_store_sib (by rfl) (.tmp 8) (.tmp 14) (by rfl) M q (by with_unfolding_all rfl) (by with_unfolding_all rfl) (unhide HX2) ?_); intro W3 HX3 HE3; simp only [Act.put]; have HB3 : Hid (Below wr.heap.size wr W3) := (by rw [unhide HE3, ← unhide HM]; exact belowRow (unhide HB2) (Nat.le_refl _) _); have HBB : Hid (Below B W0 W3) := (unhide HI).2.2.trans ((unhide HB3).mono (unhide HSZ _ (unhide HI).2.2)); obtain ⟨y0, y1, y2, y3⟩ := sib_cells (unhide HX3))
          | (go_at_call 35; refine (unhide HCC W3 (unhide HBB)).mono ?_; rintro e W4 ⟨rfl, hb4⟩; have HB4 := hide hb4; clear hb4)
          | fail)
        have HB5 : Hid (Below wr.heap.size wr W4) := (unhide HB3).trans ((unhide HB4).mono (unhide HB3).size)
        go_roundw
        case rel => exact ⟨k + 1, xp, np, cp, by omega, rfl, by go_num, by rw [unhide HT]; exact (unhide HI).1, by rw [unhide HT]; exact (unhide HI).2.1.below (unhide HB5), (unhide HI).2.2.trans ((unhide HB5).mono (unhide HSZ _ (unhide HI).2.2))⟩
        case measure => simp [intOf]; omega
      · rw [if_neg hcv] at HT
        have HCC := hide (fun W hW => unhide HC W q false hW (by simp [hcv]))
        clear hcv
        go_wp2_with (first
          | ((with_reducible refine wpList_alloc_sib (by rfl) (by rfl) (some 8) (by rfl) M (unhide HM) ?_); intro W2 HX2 HB2 HS2; simp only [Act.put, List.setIfInBounds_toArray, List.set_cons_zero, List.set_cons_succ])
          | ((with_reducible refine wpList_store_sib (by rfl) (.tmp 8) (.tmp 14) (by rfl) M q (by with_unfolding_all rfl) (by with_unfolding_all rfl) (unhide HX2) ?_); intro W3 HX3 HE3; simp only [Act.put]; have HB3 : Hid (Below wr.heap.size wr W3) := (by rw [unhide HE3, ← unhide HM]; exact belowRow (unhide HB2) (Nat.le_refl _) _); have HBB : Hid (Below B W0 W3) := (unhide HI).2.2.trans ((unhide HB3).mono (unhide HSZ _ (unhide HI).2.2)); obtain ⟨y0, y1, y2, y3⟩ := sib_cells (unhide HX3))
          | (go_at_call 35; refine (unhide HCC W3 (unhide HBB)).mono ?_; rintro e W4 ⟨rfl, hb4⟩; have HB4 := hide hb4; clear hb4; obtain ⟨y0, y1, y2, y3⟩ := sib_cells (box_below (unhide HX3) (unhide HB4)); have HB5 : Hid (Below wr.heap.size wr W4) := (unhide HB3).trans ((unhide HB4).mono (unhide HB3).size); have HO4 := hide (((unhide HI).2.1.below (unhide HB5)).below ((Below.refl _ W4).alloc (Nat.le_refl _) (.cells #[.int .u32 (q.a : Int), .int .u64 (q.c : Int), .bool q.gone, .string q.val] 56))); have HBA : Hid (Below B W0 (W4.alloc (.cells #[.int .u32 (q.a : Int), .int .u64 (q.c : Int), .bool q.gone, .string q.val] 56))) := (unhide HI).2.2.trans (((unhide HB5).trans (((Below.refl _ W4).alloc (Nat.le_refl _) _).mono (unhide HB5).size)).mono (unhide HSZ _ (unhide HI).2.2)))
          | (at_builtin; refine wpList_putS (by rfl) (.tmp 20) (.tmp 22) (by rfl) (some 23) (by rfl) B (acc ++ lk) [q] np 1 (unhide HI).1 rfl xp (some ⟨W4.heap.size, 0, none⟩) cp 1 (by rfl) (by rfl) (unhide HO4) (Dw.one W4 q 56) (by have := unhide HLM; simp only [List.length_cons, List.length_nil]; omega) (unhide HSZ _ (unhide HBA)) ?_; intro x5 n5 c5 W5 EN5 HO5 _ HBE5 _; simp only [Act.put, List.setIfInBounds_toArray, List.set_cons_zero, List.set_cons_succ]; have HB6 : Hid (Below B W0 W5) := (unhide HBA).trans (unhide HBE5))
          | fail)
        go_roundw
        case rel => exact ⟨k + 1, x5, n5, c5, by omega, rfl, by go_num, by rw [unhide HT, ← List.append_assoc]; exact unhide EN5, by rw [unhide HT, ← List.append_assoc]; exact unhide HO5, unhide HB6⟩
        case measure => simp [intOf]; omega
    · obtain rfl : k = n2 := by omega
      have hki : ¬ (k : Int) < (k : Int) := by omega
      have HT : Hid (l.take k = l) := List.take_of_length_le (by rw [unhide E2]; exact Nat.le_refl _)
      rw [unhide HT] at HI
      go_wp2
      go_ret
      exact ⟨xp, np, cp, rfl, by rw [← List.length_append]; exact (unhide HI).1, (unhide HI).2.1, (unhide HI).2.2⟩
end Go.Proofs.Ytbahfpcfjhifbaa
