/- Objects, the document's side: Key, Absent, Place, Check. -/
import Derived.Test.YtkcbljmjhlnjpaaQ19
import Derived.Test.YtkcbljmjhlnjpaaQDgc
import Derived.Test.YtkcbljmjhlnjpaaQZaj
namespace Go.Proofs.Ytkcbljmjhlnjpaa
open Go.RowKit Go.Lib
theorem qKey (k : ByteArray) (u : World) : Calls Try.prog 35 #[.string k] u fun e u' => e = .returned (.int .i64 (keyE k)) ∧ u' = u := by
  by_cases h1 : k.size < 1
  · have e : keyE k = 130 := by unfold keyE; rw [if_neg (by omega)]
    rw [e]
    have h1' : (k.size : Int) < 1 := by omega
    clear e
    go_enter Try.func35, Try.ntmps35
    go_wp2
    go_ret
    exact ⟨rfl, rfl⟩
  · by_cases h2 : 32 < k.size
    · have e : keyE k = 130 := by unfold keyE; rw [if_neg (by omega)]
      rw [e]
      have h1' : ¬ (k.size : Int) < 1 := by omega
      have h2' : (k.size : Int) > 32 := by omega
      clear e
      go_enter Try.func35, Try.ntmps35
      go_wp2
      go_ret
      exact ⟨rfl, rfl⟩
    · have e : keyE k = 0 := by unfold keyE; rw [if_pos (by omega)]
      rw [e]
      have h1' : ¬ (k.size : Int) < 1 := by omega
      have h2' : ¬ (k.size : Int) > 32 := by omega
      clear e
      go_enter Try.func35, Try.ntmps35
      go_wp2
      go_ret
      exact ⟨rfl, rfl⟩
theorem qAbsent (k : ByteArray) (v : Sv) (n m : Nat) (hn : n ≤ 140737488355328) (hm : m ≤ 140737488355328) (u : World) : Calls Try.prog 73 #[obV k v n m] u fun e u' => e = .returned (.bool (decide (n = 0) && decide (m = 0))) ∧ Below u.heap.size u u' := by
  obtain ⟨N, hN⟩ : ∃ N, N = u.heap.size := ⟨_, rfl⟩
  have HN := hide hN
  rw [← hN]
  clear hN
  have hz : ∀ k : Nat, ((k : Int) == 0) = decide (k = 0) := fun k => by
    by_cases h : k = 0
    · subst h; rfl
    · rw [decide_eq_false h]; exact beq_eq_false_iff_ne.2 (by omega)
  by_cases h0 : n = 0
  · subst h0
    by_cases h1 : m = 0
    · subst h1
      clear hz
      rw [show (decide ((0 : Nat) = 0) && decide ((0 : Nat) = 0)) = true by rfl]
      go_enter Try.func73, Try.ntmps73
      go_wp2_with (first
        | ((with_reducible refine wpList_box_ob (by rfl) (.tmp 0) (by rfl) (some 1) (by rfl) N (unhide HN) k v 0 0 (by with_unfolding_all rfl) ?_); intro W1 HX1 HB1 HS1; simp only [Act.put, List.setIfInBounds_toArray, List.set_cons_zero, List.set_cons_succ]; obtain ⟨c0, c1, c2⟩ := ob_cells (unhide HX1))
        | fail)
      go_ret
      exact ⟨rfl, unhide HB1⟩
    · rw [decide_eq_false h1, Bool.and_false]
      have hm1 : ((m : Int) == 0) = false := by rw [hz, decide_eq_false h1]
      clear hz
      go_enter Try.func73, Try.ntmps73
      go_wp2_with (first
        | ((with_reducible refine wpList_box_ob (by rfl) (.tmp 0) (by rfl) (some 1) (by rfl) N (unhide HN) k v 0 m (by with_unfolding_all rfl) ?_); intro W1 HX1 HB1 HS1; simp only [Act.put, List.setIfInBounds_toArray, List.set_cons_zero, List.set_cons_succ]; obtain ⟨c0, c1, c2⟩ := ob_cells (unhide HX1))
        | fail)
      go_ret
      exact ⟨rfl, unhide HB1⟩
  · rw [decide_eq_false h0, Bool.false_and]
    have hn1 : ((n : Int) == 0) = false := by rw [hz, decide_eq_false h0]
    clear hz
    go_enter Try.func73, Try.ntmps73
    go_wp2_with (first
      | ((with_reducible refine wpList_box_ob (by rfl) (.tmp 0) (by rfl) (some 1) (by rfl) N (unhide HN) k v n m (by with_unfolding_all rfl) ?_); intro W1 HX1 HB1 HS1; simp only [Act.put, List.setIfInBounds_toArray, List.set_cons_zero, List.set_cons_succ]; obtain ⟨c0, c1, c2⟩ := ob_cells (unhide HX1))
      | fail)
    go_ret
    exact ⟨rfl, unhide HB1⟩
set_option maxRecDepth 100000 in
set_option maxHeartbeats 2000000 in
theorem qPlace (k : ByteArray) (u : World) : Calls Try.prog 34 #[.string k] u fun e u' => e = .returned (.tuple #[.int .i64 (if keyE k = 0 then (plN k : Int) else 0), .int .i64 (keyE k)]) ∧ Below u.heap.size u u' := by
  have HK := hide (qKey k)
  by_cases h : keyE k = 0
  · rw [if_pos h, h]
    rw [h] at HK
    have hk := (keyE_zero.1 h).2
    clear h
    obtain ⟨T, hT⟩ : ∃ T : ByteArray, T = ⟨#[75]⟩ ++ k := ⟨_, rfl⟩
    have hTd : T.data.toList = 75 :: k.data.toList := by
      rw [hT, ByteArray.data_append, Array.toList_append]
      rfl
    have hTs : T.size ≤ 140737488351232 := by
      have h : T.size = T.data.toList.length := rfl
      rw [h, hTd]
      have h2 : k.data.toList.length = k.size := rfl
      simp only [List.length_cons, h2]
      omega
    have hcat : (Op.stringOp .add (⟨#[75]⟩ : ByteArray) k).run Try.prog u = .ok (.string T) u := by
      rw [hT]
      have h1 : ((⟨#[75]⟩ : ByteArray).size : Int) = 1 := rfl
      unfold Op.stringOp
      simp [h1]
      omega
    obtain ⟨p, hp⟩ : ∃ p, p = plN k := ⟨_, rfl⟩
    unfold plN at hp
    rw [← hTd] at hp
    rw [show plN k = p by unfold plN; rw [hp, hTd]]
    have HQ := hide (D.mOf T hTs)
    have hx := ofCells_at T.data.toList 0 (by decide)
    have hy := ofCells_at T.data.toList 1 (by decide)
    have ha := ((D.Sha.of T.data.toList).getD 0 0).toNat_lt
    have hb := ((D.Sha.of T.data.toList).getD 1 0).toNat_lt
    generalize ((D.Sha.of T.data.toList).getD 0 0).toNat = a at *
    generalize ((D.Sha.of T.data.toList).getD 1 0).toNat = b at *
    have HP := hide hp
    have HX := hide hx
    have HY := hide hy
    clear hp hx hy hT hTd
    have HZS : Hid (D.Z32.size = (D.ofCells T.data.toList).size) := by rw [D.ofCells_size]; rfl
    go_enter Try.func34, Try.ntmps34
    go_wp2_with (first
      | (go_at_call 35; refine (unhide HK u).mono ?_; rintro e W0 ⟨rfl, rfl⟩)
      | (go_at_call 70; refine (unhide HQ _).mono ?_; rintro e W1 ⟨rfl, hb1⟩; have HB1 := hide hb1; clear hb1; obtain ⟨N, hN⟩ : ∃ N, N = W1.heap.size := ⟨_, rfl⟩; have HN := hide hN; clear hN)
      | ((with_reducible refine wpList_alloc_row (by rfl) _ (by rfl) (some 4) (by rfl) N (unhide HN).symm _ D.zeroS ?_); intro W2 HX2 HB2 HS2; simp only [Act.put, List.setIfInBounds_toArray, List.set_cons_zero, List.set_cons_succ])
      | ((with_reducible refine wpList_store_hid (by rfl) _ (.tmp 4) (.tmp 10) (by rfl) N _ (by with_unfolding_all rfl) (by with_unfolding_all rfl) _ _ (unhide HX2) (D.ofCells_info _) (unhide HZS) (D.ofCells_one _) ?_); intro W3 HX3 HE3; simp only [Act.put]; have c0 := arr_cell (unhide HX3) (unhide HX); have c1 := arr_cell (unhide HX3) (unhide HY))
      | fail)
    have hq : 16 * (a : Int) + (b : Int) / 16 = (p : Int) := by have := unhide HP; omega
    rw [hq]
    go_ret2
    refine ⟨rfl, ?_⟩
    rw [unhide HE3]
    exact belowRow ((unhide HB1).trans ((unhide HB2).mono (by rw [unhide HN]; exact (unhide HB1).size))) (by rw [unhide HN]; exact (unhide HB1).size) _
  · rw [if_neg h]
    have e : keyE k = 130 := by
      unfold keyE at h ⊢
      by_cases h2 : 1 ≤ k.size ∧ k.size ≤ 32
      · rw [if_pos h2] at h; exact absurd rfl h
      · rw [if_neg h2]
    rw [e] at HK ⊢
    clear h e
    go_enter Try.func34, Try.ntmps34
    go_wp2_with (first
      | (go_at_call 35; refine (unhide HK u).mono ?_; rintro e W1 ⟨rfl, rfl⟩)
      | fail)
    go_ret2
    exact ⟨rfl, Below.refl _ _⟩
end Go.Proofs.Ytkcbljmjhlnjpaa
