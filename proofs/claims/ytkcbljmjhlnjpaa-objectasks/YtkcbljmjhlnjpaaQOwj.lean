/- Objects: the law's kept. -/
import Derived.Test.YtkcbljmjhlnjpaaQ24
namespace Go.Proofs.Ytkcbljmjhlnjpaa
open Go.RowKit Go.Lib
theorem TwO.cells {G : World} {B : Nat} {o : Ot} {x : Sv} {gd gs : Nat} (h : TwO G B o x) (h1 : x.sa = some ⟨gd, 0, none⟩) (h2 : x.ba = some ⟨gs, 0, none⟩) : G.cell? ⟨gd, o.st.seen.length * 2 + 1, none⟩ = some (.int .u64 1125899906842624) ∧ G.cell? ⟨gs, o.st.sibs.length * 4 + 3, none⟩ = some (.string ⟨#[109, 97, 114, 107]⟩) := by
  have hd := h.sd
  have hb := h.sb
  rw [h1] at hd
  rw [h2] at hb
  have e1 : (flatD (o.st.seen ++ [mkD])).length = o.st.seen.length * 2 + 2 := by rw [flatD_len, List.length_append]; show (_ + 1) * 2 = _; omega
  have e2 : (flatS (o.st.sibs ++ [mkS])).length = o.st.sibs.length * 4 + 4 := by rw [flatS_len, List.length_append]; show (_ + 1) * 4 = _; omega
  have l1 : (o.st.seen ++ [mkD]).length = o.st.seen.length + 1 := by simp
  have l2 : (o.st.sibs ++ [mkS]).length = o.st.sibs.length + 1 := by simp
  constructor
  · rw [World.ownsRow.cellAt hd (o.st.seen.length * 2 + 1) (by omega), flatD_app, List.getElem?_append_right (by rw [flatD_len]; omega), flatD_len, show o.st.seen.length * 2 + 1 - o.st.seen.length * 2 = 1 by omega]
    rfl
  · rw [World.ownsRow.cellAt hb (o.st.sibs.length * 4 + 3) (by omega), flatS_app, List.getElem?_append_right (by rw [flatS_len]; omega), flatS_len, show o.st.sibs.length * 4 + 3 - o.st.sibs.length * 4 = 3 by omega]
    rfl
theorem TwO.sx {u : World} {B : Nat} {o : Ot} {x v : Sv} {n m : Nat} {u0 : World} (ht : TwO u B o x) (hv : Sx u0 o.st v n m) : Sx u o.st x n m := ⟨ht.sat hv.sat.fit hv.sat.seen.len hv.sat.sibs.len, hv.en, hv.em⟩
set_option maxRecDepth 100000 in
set_option maxHeartbeats 4000000 in
theorem lKeptO {u : World} {B : Nat} {o : Ot} {x v : Sv} {n m : Nat} (ht : TwO u B o x) (hv : Sx u o.st v n m) : Calls Try.prog 15 #[obV o.key x n m, obV o.key v n m] u fun e u' => e = .returned (.bool true) ∧ Below u.heap.size u u' := by
  obtain ⟨N, hN⟩ : ∃ N, N = u.heap.size := ⟨_, rfl⟩
  have HN := hide hN
  have HU : Hid (∀ G : World, Below N u G → Below u.heap.size u G) := fun G hG => by rw [← unhide HN]; exact hG
  have HSX := hide (ht.sx hv)
  have HSV := hide hv
  obtain ⟨gd, hgd⟩ := own_pos ht.sd (by simp)
  obtain ⟨gs, hgs⟩ := own_pos ht.sb (by simp)
  have hcd := ht.sd.dv.cap
  have hcs := ht.sb.dw.cap
  rw [List.length_append, ← hv.en] at hcd
  rw [List.length_append, ← hv.em] at hcs
  have hcd : n + 1 ≤ x.sc := hcd
  have hcs : m + 1 ≤ x.bc := hcs
  have HC : Hid (∀ G : World, Below N u G → G.cell? ⟨gd, n * 2 + 1, none⟩ = some (.int .u64 1125899906842624) ∧ G.cell? ⟨gs, m * 4 + 3, none⟩ = some (.string ⟨#[109, 97, 114, 107]⟩)) := fun G hG => by
    rw [hv.en, hv.em]
    exact (ht.below (unhide HU G hG)).cells hgd hgs
  have hn1 : (n : Int) ≤ 140737488355328 := by have := hv.few; omega
  have hm1 : (m : Int) ≤ 3518437208780 := by have := hv.sat.sibs.len; rw [← hv.em] at this; omega
  obtain ⟨xsa, xsc, xba, xbc⟩ := x
  have hgd : xsa = some ⟨gd, 0, none⟩ := hgd
  have hgs : xba = some ⟨gs, 0, none⟩ := hgs
  have hcd : n + 1 ≤ xsc := hcd
  have hcs : m + 1 ≤ xbc := hcs
  subst hgd hgs
  obtain ⟨n1, hn1e⟩ : ∃ k, k = n + 1 := ⟨_, rfl⟩
  obtain ⟨m1, hm1e⟩ : ∃ k, k = m + 1 := ⟨_, rfl⟩
  have hn1i : (n : Int) + 1 = (n1 : Int) := by omega
  have hm1i : (m : Int) + 1 = (m1 : Int) := by omega
  have q1 := cutDD gd n xsc n1 (by omega) (by omega)
  have q2 := cutSS gs m xbc m1 (by omega) (by omega)
  have i1 : ∀ G : World, (Instr.indexAt 28 (.slice (some ⟨gd, 0, none⟩) n1 xsc) (.int .i64 (n : Int))).run Try.prog G = .ok (.pointer (some ⟨gd, n * 2, none⟩)) G := fun G => by have := ixD gd 0 n1 xsc n (by omega) G; rwa [Nat.zero_add] at this
  have i2 : ∀ G : World, (Instr.indexAt 29 (.slice (some ⟨gs, 0, none⟩) m1 xbc) (.int .i64 (m : Int))).run Try.prog G = .ok (.pointer (some ⟨gs, m * 4, none⟩)) G := fun G => by have := ixS gs 0 m1 xbc m (by omega) G; rwa [Nat.zero_add] at this
  rw [← hN]
  clear hN ht hv hcd hcs hn1e hm1e
  go_enter Try.func15, Try.ntmps15
  go_wp2_with (first
    | ((with_reducible refine wpList_box_ob (by rfl) (.tmp 0) (by rfl) (some 2) (by rfl) N (unhide HN) o.key ⟨some ⟨gd, 0, none⟩, xsc, some ⟨gs, 0, none⟩, xbc⟩ n m (by with_unfolding_all rfl) ?_); intro W1 HX1 HB1 HS1; simp only [Act.put, List.setIfInBounds_toArray, List.set_cons_zero, List.set_cons_succ])
    | ((with_reducible refine wpList_box_ob (by rfl) (.tmp 1) (by rfl) (some 3) (by rfl) (N + 1) (unhide HS1).symm o.key v n m (by with_unfolding_all rfl) ?_); intro W2 HX2 HB2 HS2; simp only [Act.put, List.setIfInBounds_toArray, List.set_cons_zero, List.set_cons_succ]; replace HX1 := hide (((unhide HB2).block N (Nat.lt_succ_self _)).trans (unhide HX1)); replace HB1 : Hid (Below N u W2) := (unhide HB1).trans ((unhide HB2).mono (Nat.le_succ _)); obtain ⟨c0, c1, c2⟩ := ob_cells (unhide HX1); obtain ⟨d0, d1, d2⟩ := ob_cells (unhide HX2))
    | (go_at_call 17; refine (klSame (a := o) (b := o) (u := W2) ((unhide HSX).below (unhide HU _ (unhide HB1))) ((unhide HSV).below (unhide HU _ (unhide HB1))) true (sameO_iff.2 rfl)).mono ?_; rintro e W3 ⟨rfl, hb⟩; clear c0 c1 c2 d0 d1 d2; obtain ⟨d0, d1, d2⟩ := ob_cells (box_below (unhide HX2) hb); replace HB1 : Hid (Below N u W3) := (unhide HB1).trans (hb.mono (by rw [unhide HS2]; omega)); clear hb; obtain ⟨k1, k2⟩ := unhide HC W3 (unhide HB1))
    | fail)
  go_ret
  exact ⟨rfl, unhide HB1⟩
end Go.Proofs.Ytkcbljmjhlnjpaa
