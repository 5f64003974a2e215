/- States: the walk of DvvUpward. -/
import Derived.Test.YtbahfpcfjhifbaaYs
import Derived.Test.YtbahfpcfjhifbaaZaa
import Derived.Test.YtbahfpcfjhifbaaZab
namespace Go.Proofs.Ytbahfpcfjhifbaa
open Go.RowKit Go.Lib
theorem entCv : ∀ args (w : World), (callFunc 35 args).run Try.prog w = .ok (.enter 35 args) w := by
  intro args w
  go_simp
def askRow (k : Pk) (ao : Option Addr) (c n : Nat) : Obj := .cells #[.slice ao n c, .int .u32 (k.x : Int), .string k.val, .bool k.gone] 40 (0, 0)
def dotRow (da dc : Nat) : Obj := .cells #[.int .u32 (da : Int), .int .u64 (dc : Int)] 43 (0, 0)
/-- a put's four variables -/
structure Uw (W : World) (N K : Nat) (s T : St) (vs vt : Sv) (ns ms nt mt : Nat) (k : Pk) (ao : Option Addr) (c nc : Nat) (da dc : Nat) : Prop where
  old : Lv W N s vs ns ms
  new : Lv W K T vt nt mt
  ask : W.heap[N + 1]? = some (askRow k ao c nc)
  dot : W.heap[K + 1]? = some (dotRow da dc)
  ctx : Da W k.ctx ao c
  ec : nc = k.ctx.length
section
variable {W W' : World} {N K : Nat} {s T : St} {vs vt : Sv} {ns ms nt mt : Nat} {k : Pk} {ao : Option Addr} {c nc da dc : Nat}
theorem Uw.below (h : Uw W N K s T vs vt ns ms nt mt k ao c nc da dc) (hb : Below W.heap.size W W') : Uw W' N K s T vs vt ns ms nt mt k ao c nc da dc :=
  ⟨h.old.below hb, h.new.below hb, box_below h.ask hb, box_below h.dot hb, h.ctx.below hb, h.ec⟩
theorem Uw.cells (h : Uw W N K s T vs vt ns ms nt mt k ao c nc da dc) : W.cell? ⟨N, 0, none⟩ = some (.slice vs.sa ns vs.sc) ∧ W.cell? ⟨N, 1, none⟩ = some (.slice vs.ba ms vs.bc) ∧ W.cell? ⟨K, 0, none⟩ = some (.slice vt.sa nt vt.sc) ∧ W.cell? ⟨K, 1, none⟩ = some (.slice vt.ba mt vt.bc) ∧
    W.cell? ⟨N + 1, 0, none⟩ = some (.slice ao nc c) ∧ W.cell? ⟨N + 1, 1, none⟩ = some (.int .u32 (k.x : Int)) ∧ W.cell? ⟨N + 1, 2, none⟩ = some (.string k.val) ∧ W.cell? ⟨N + 1, 3, none⟩ = some (.bool k.gone) ∧ W.cell? ⟨K + 1, 0, none⟩ = some (.int .u32 (da : Int)) ∧ W.cell? ⟨K + 1, 1, none⟩ = some (.int .u64 (dc : Int)) := by
  have h1 := h.old.cells
  have h2 := h.new.cells
  have h3 := box4 h.ask
  have h4 := box2 h.dot
  exact ⟨h1.1, h1.2, h2.1, h2.2, h3.1, h3.2.1, h3.2.2.1, h3.2.2.2, h4.1, h4.2⟩
theorem Uw.put {X : World} (hS : Lv W N s vs ns ms) (hA : W.heap[N + 1]? = some (askRow k ao c nc)) (hC : Da W k.ctx ao c) (ec : nc = k.ctx.length) (hT : Sx W T vt nt mt) (hb : Below W.heap.size W X) (h1 : X.heap[K]? = some (stRow vt nt mt)) (h2 : X.heap[K + 1]? = some (dotRow da dc)) : Uw X N K s T vs vt ns ms nt mt k ao c nc da dc :=
  ⟨hS.below hb, ⟨hT.below hb, h1⟩, box_below hA hb, h2, hC.below hb, ec⟩
end
theorem kvPut {W0 : World} {s : St} {v : Sv} {n m : Nat} {k : Pk} {ao : Option Addr} {c nc : Nat} {J : St} {d : Nat × Nat} {r : Int} (h : Sx W0 s v n m) (hc : Da W0 k.ctx ao c) (ec : nc = k.ctx.length) (hx : k.x < 4294967296) (hv : k.val.size ≤ 140737488355328) (hP : putV s k.ctx k.x k.val k.gone = (J, d, r)) (hJ : SOk J) (hf : FitT J) :
    Calls Try.prog 29 #[v.v n m, .slice ao nc c, .int .u32 (k.x : Int), .string k.val, .bool k.gone] W0 fun e u' => ∃ y n m, e = .returned (.tuple #[Sv.v y n m, .agg #[.int .u32 (d.1 : Int), .int .u64 (d.2 : Int)], .int .i64 r]) ∧ Sx u' J y n m ∧ Below W0.heap.size W0 u' := by
  rw [h.en, h.em]
  refine (dPut s v k.ctx ao c nc ec k.x hx k.val hv k.gone W0 h.sat hc J d r hP).mono ?_
  rintro e u' ⟨y, n, m, h1, h2, h3, h4, h5⟩
  exact ⟨y, n, m, h1, ⟨h4.at hf hJ, h2, h3⟩, h5⟩
/-- how many were met that stood before, behind j of them, where the new one is at p -/
def kk (p j : Nat) : Nat := if j ≤ p then j else j - 1
def pp (p j : Nat) : Nat := if j ≤ p then 0 else 1
theorem cut_at {L M : List Sb} {x : Sb} {p : Nat} (hp : p ≤ L.length) (h : M = L.take p ++ x :: L.drop p) : M.length = L.length + 1 ∧ (∀ hh : p < M.length, M[p] = x) ∧ ∀ j (hj : j < M.length), j ≠ p → ∃ hk : kk p j < L.length, M[j] = L[kk p j] ∧ kk p (j + 1) = kk p j + 1 ∧ pp p (j + 1) = pp p j := by
  subst h
  have hl : (L.take p ++ x :: L.drop p).length = L.length + 1 := by simp; omega
  refine ⟨hl, fun hh => ?_, fun j hj hne => ?_⟩
  · rw [List.getElem_append_right (by simp; omega)]
    simp [Nat.min_eq_left hp]
  · rw [hl] at hj
    by_cases hjp : j < p
    · have e : kk p j = j := if_pos (Nat.le_of_lt hjp)
      refine ⟨by rw [e]; omega, ?_, by rw [e]; exact if_pos hjp, by unfold pp; rw [if_pos (show j + 1 ≤ p by omega), if_pos (show j ≤ p by omega)]⟩
      rw [List.getElem_append_left (by simp; omega)]
      simp [e]
    · have e : kk p j = j - 1 := if_neg (by omega)
      refine ⟨by rw [e]; omega, ?_, by rw [e]; unfold kk; rw [if_neg (by omega)]; omega, by unfold pp; rw [if_neg (show ¬ j + 1 ≤ p by omega), if_neg (show ¬ j ≤ p by omega)]⟩
      rw [List.getElem_append_right (by simp; omega)]
      obtain ⟨i, hi⟩ : ∃ i, j - (L.take p).length = i + 1 := ⟨j - p - 1, by simp; omega⟩
      have hi2 : p + i = j - 1 := by simp [Nat.min_eq_left hp] at hi; omega
      simp only [hi, List.getElem_cons_succ, List.getElem_drop, e, hi2]
set_option maxRecDepth 100000 in
set_option maxHeartbeats 16000000 in
theorem upward11_walk (s : St) (vs : Sv) (k : Pk) (ao : Option Addr) (c : Nat) (u : World) (hs : SAt u s vs) (hc : Da u k.ctx ao c) (hx : k.x < 4294967296) (hv : k.val.size ≤ 140737488355328) : Calls Try.prog 9 #[vs.v s.seen.length s.sibs.length, k.v ao c k.ctx.length] u fun e u' => e = .returned (.bool true) ∧ Below u.heap.size u u' := by
  have hmix : Try.prog.follows .mixedOrders = true := by kernel_rfl
  obtain ⟨N, hN⟩ : ∃ N, N = u.heap.size := ⟨_, rfl⟩
  have HN := hide hN
  obtain ⟨ns, hns⟩ : ∃ n, n = s.seen.length := ⟨_, rfl⟩
  obtain ⟨ms, hms⟩ : ∃ n, n = s.sibs.length := ⟨_, rfl⟩
  obtain ⟨nc, hnc⟩ : ∃ n, n = k.ctx.length := ⟨_, rfl⟩
  have HSA : Hid (Sx u s vs ns ms) := ⟨hs, hns, hms⟩
  have HCA := hide hc
  have HEC := hide hnc
  have HX := hide hx
  have HV := hide hv
  rw [← hns, ← hms, ← hnc, ← hN]
  clear hN hns hms hnc hs hc hx hv
  have HU : Hid (∀ W : World, Below N u W → Below u.heap.size u W) := fun W hW => by rw [← unhide HN]; exact hW
  rcases put_cases s k.ctx k.x k.val k.gone with ⟨r, hr, hp⟩ | ⟨hs, hc, ⟨xa, xc, xg, xv⟩, e1, e2, e3, hxc, hpo, hp⟩
  · have HP := hide hp
    have hrb : (r == 0) = false := by simpa using hr
    clear hp hr
    go_enter Try.func9, Try.ntmps9
    go_wp2_with (first
      | ((with_reducible refine wpList_box_state (by rfl) (.tmp 0) (by rfl) (some 2) (by rfl) N (unhide HN) vs ns ms (by with_unfolding_all rfl) ?_); intro W1 HX1 HB1 HS1; simp only [Act.put, List.setIfInBounds_toArray, List.set_cons_zero, List.set_cons_succ])
      | ((with_reducible refine wpList_box_row (by rfl) 40 (.tmp 1) (by rfl) (some 3) (by rfl) (N + 1) (unhide HS1) #[.slice ao nc c, .int .u32 (k.x : Int), .string k.val, .bool k.gone] (by with_unfolding_all rfl) ?_); intro W2 HX2 HB2 HS2; simp only [Act.put, List.setIfInBounds_toArray, List.set_cons_zero, List.set_cons_succ]; have HBU : Hid (Below N u W2) := (unhide HB1).trans ((unhide HB2).mono (Nat.le_succ _)); have HLS : Hid (Lv W2 N s vs ns ms) := ⟨(unhide HSA).below (unhide HU _ (unhide HBU)), ((unhide HB2).block N (Nat.lt_succ_self _)).trans (unhide HX1)⟩; have HAS : Hid (W2.heap[N + 1]? = some (askRow k ao c nc)) := HX2; have HCT := hide ((unhide HCA).below (unhide HU _ (unhide HBU))); have HNW : Hid (N + 2 ≤ W2.heap.size) := Nat.le_of_eq (unhide HS2).symm; clear HX1 HX2 HB1 HB2 HS1 HS2)
      | (go_at_call 34; refine (lAwake W2).mono ?_; rintro e W3 ⟨rfl, hbx⟩; replace HLS := hide ((unhide HLS).below hbx); replace HAS := hide (box_below (unhide HAS) hbx); replace HCT := hide ((unhide HCT).below hbx); replace HBU : Hid (Below N u W3) := (unhide HBU).trans (hbx.mono (Nat.le_trans (Nat.le_add_right N 2) (unhide HNW))); replace HNW : Hid (N + 2 ≤ W3.heap.size) := Nat.le_trans (unhide HNW) hbx.size; clear hbx; obtain ⟨s0, s1⟩ := (unhide HLS).cells; obtain ⟨a0, a1, a2, a3⟩ := box4 (unhide HAS))
      | (go_at_call 29; refine (kvPut (unhide HLS).toSx (unhide HCT) (unhide HEC) (unhide HX) (unhide HV) (unhide HP) none_ok fit_none).mono ?_; rintro e W4 ⟨vt, nt, mt, rfl, hsx, hbx⟩; clear s0 s1 a0 a1 a2 a3; replace HLS := hide ((unhide HLS).below hbx); replace HAS := hide (box_below (unhide HAS) hbx); replace HCT := hide ((unhide HCT).below hbx); replace HBU : Hid (Below N u W4) := (unhide HBU).trans (hbx.mono (Nat.le_trans (Nat.le_add_right N 2) (unhide HNW))); replace HNW : Hid (N + 2 ≤ W4.heap.size) := Nat.le_trans (unhide HNW) hbx.size; obtain rfl : nt = 0 := hsx.en; obtain rfl : mt = 0 := hsx.em; have HSJ := hide hsx; clear hsx hbx; obtain ⟨K, hK⟩ : ∃ k, k = W4.heap.size := ⟨_, rfl⟩; have HK := hide hK; clear hK)
      | ((with_reducible refine wpList_alloc_state (by rfl) (by rfl) (some 5) (by rfl) K (unhide HK) ?_); intro W5 HX5 HB5 HS5; simp only [Act.put, List.setIfInBounds_toArray, List.set_cons_zero, List.set_cons_succ])
      | ((with_reducible refine wpList_alloc_dot (by rfl) (by rfl) (some 6) (by rfl) (K + 1) (unhide HS5).symm ?_); intro W6 HX6 HB6 HS6; simp only [Act.put, List.setIfInBounds_toArray, List.set_cons_zero, List.set_cons_succ]; have HY6 : Hid (W6.heap[K]? = some (stRow Sv.none 0 0)) := ((unhide HB6).block K (Nat.lt_succ_self _)).trans (unhide HX5))
      | ((with_reducible refine wpList_store_state (by rfl) (.tmp 5) (.tmp 26) (by rfl) K vt 0 0 (by with_unfolding_all rfl) (by with_unfolding_all rfl) Sv.none 0 0 (unhide HY6) ?_); intro W7 HX7 HE7; simp only [Act.put]; have HY7 : Hid (W7.heap[K + 1]? = some (.cells #[.int .u32 0, .int .u64 0] 43 (0, 0))) := (by rw [unhide HE7]; exact (heapRow_other _ _ _ _ (Nat.succ_ne_self K)).trans (unhide HX6)))
      | ((with_reducible refine wpList_store_dot (by rfl) (.tmp 6) (.tmp 27) (by rfl) (K + 1) (0) (0) (by with_unfolding_all rfl) (by with_unfolding_all rfl) (unhide HY7) ?_); intro W8 HX8 HE8; simp only [Act.put]; have HBX : Hid (Below W4.heap.size W4 W8) := (by rw [unhide HE8, unhide HE7, ← unhide HK]; exact belowRow (belowRow ((unhide HB5).trans ((unhide HB6).mono (Nat.le_succ _))) (Nat.le_refl _) _) (Nat.le_succ _) _); have HUW : Hid (Uw W8 N K s St.none vs vt ns ms 0 0 k ao c nc 0 0) := Uw.put (unhide HLS) (unhide HAS) (unhide HCT) (unhide HEC) (unhide HSJ) (unhide HBX) (by rw [unhide HE8]; exact (heapRow_other _ _ _ _ (Nat.ne_of_lt (Nat.lt_succ_self K))).trans (unhide HX7)) (unhide HX8); replace HBU : Hid (Below N u W8) := (unhide HBU).trans ((unhide HBX).mono (Nat.le_trans (Nat.le_add_right N 2) (unhide HNW))); replace HNW : Hid (N + 2 ≤ W8.heap.size) := Nat.le_trans (unhide HNW) (unhide HBX).size; clear HBX HX5 HB5 HS5 HX6 HB6 HS6 HY6 HX7 HE7 HY7 HX8 HE8 HSJ HLS HAS HCT HK; obtain ⟨s0, s1, t0, t1, a0, a1, a2, a3, d0, d1⟩ := (unhide HUW).cells)
      | fail)
    go_ret
    exact ⟨rfl, unhide HBU⟩
  · simp only at e1 e2 e3
    subst e1 e2 e3
    have HP : Hid (putV s k.ctx k.x k.val k.gone = (putS s k.ctx ⟨k.x, xc, k.gone, k.val⟩, (k.x, xc), 0)) := hp
    have HFX : Hid (FitT (putS s k.ctx ⟨k.x, xc, k.gone, k.val⟩)) := fit_put (unhide HSA).sat.fit (unhide HCA).fits ⟨unhide HX, Nat.lt_of_le_of_lt hxc (by decide), unhide HV⟩
    generalize putS s k.ctx ⟨k.x, xc, k.gone, k.val⟩ = J at *
    have HPO := hide hpo
    have HVJ := hide (sokB_true.2 hpo.ok)
    have HBE := hide (sbelB_iff.2 ⟨hs, hpo.ok, hpo.up⟩)
    have HSF : Hid (sameB s J = false) := by
      show sameB s J = false
      cases hq : sameB s J
      · rfl
      · have e := sameB_iff.1 hq
        exact absurd hpo.ct (by rw [← e]; exact hpo.ns)
    have HC1 : Hid (covB s.seen (k.x, xc) = false) := by show covB s.seen (k.x, xc) = false; rw [covB_ok hs.ok]; exact decide_eq_false hpo.ns
    have HC2 : Hid (covB k.ctx (k.x, xc) = false) := by show covB k.ctx (k.x, xc) = false; rw [covB_ok hc]; exact decide_eq_false hpo.nc
    have HC3 : Hid (covB J.seen (k.x, xc) = true) := by show covB J.seen (k.x, xc) = true; rw [covB_ok hpo.ok.ok]; exact decide_eq_true hpo.ct
    have HVB : Hid (belB k.ctx J.seen = true) := (belB_true hc hpo.ok.ok).2 hpo.bel
    have HOS := hide hs
    have HOC := hide hc
    clear hp hpo hs hc hxc
    go_enter Try.func9, Try.ntmps9
    go_wp2_with (first
      | ((with_reducible refine wpList_box_state (by rfl) (.tmp 0) (by rfl) (some 2) (by rfl) N (unhide HN) vs ns ms (by with_unfolding_all rfl) ?_); intro W1 HX1 HB1 HS1; simp only [Act.put, List.setIfInBounds_toArray, List.set_cons_zero, List.set_cons_succ])
      | ((with_reducible refine wpList_box_row (by rfl) 40 (.tmp 1) (by rfl) (some 3) (by rfl) (N + 1) (unhide HS1) #[.slice ao nc c, .int .u32 (k.x : Int), .string k.val, .bool k.gone] (by with_unfolding_all rfl) ?_); intro W2 HX2 HB2 HS2; simp only [Act.put, List.setIfInBounds_toArray, List.set_cons_zero, List.set_cons_succ]; have HBU : Hid (Below N u W2) := (unhide HB1).trans ((unhide HB2).mono (Nat.le_succ _)); have HLS : Hid (Lv W2 N s vs ns ms) := ⟨(unhide HSA).below (unhide HU _ (unhide HBU)), ((unhide HB2).block N (Nat.lt_succ_self _)).trans (unhide HX1)⟩; have HAS : Hid (W2.heap[N + 1]? = some (askRow k ao c nc)) := HX2; have HCT := hide ((unhide HCA).below (unhide HU _ (unhide HBU))); have HNW : Hid (N + 2 ≤ W2.heap.size) := Nat.le_of_eq (unhide HS2).symm; clear HX1 HX2 HB1 HB2 HS1 HS2)
      | (go_at_call 34; refine (lAwake W2).mono ?_; rintro e W3 ⟨rfl, hbx⟩; replace HLS := hide ((unhide HLS).below hbx); replace HAS := hide (box_below (unhide HAS) hbx); replace HCT := hide ((unhide HCT).below hbx); replace HBU : Hid (Below N u W3) := (unhide HBU).trans (hbx.mono (Nat.le_trans (Nat.le_add_right N 2) (unhide HNW))); replace HNW : Hid (N + 2 ≤ W3.heap.size) := Nat.le_trans (unhide HNW) hbx.size; clear hbx; obtain ⟨s0, s1⟩ := (unhide HLS).cells; obtain ⟨a0, a1, a2, a3⟩ := box4 (unhide HAS))
      | (go_at_call 29; refine (kvPut (unhide HLS).toSx (unhide HCT) (unhide HEC) (unhide HX) (unhide HV) (unhide HP) (unhide HPO).ok (unhide HFX)).mono ?_; rintro e W4 ⟨vt, nt, mt, rfl, hsx, hbx⟩; clear s0 s1 a0 a1 a2 a3; replace HLS := hide ((unhide HLS).below hbx); replace HAS := hide (box_below (unhide HAS) hbx); replace HCT := hide ((unhide HCT).below hbx); replace HBU : Hid (Below N u W4) := (unhide HBU).trans (hbx.mono (Nat.le_trans (Nat.le_add_right N 2) (unhide HNW))); replace HNW : Hid (N + 2 ≤ W4.heap.size) := Nat.le_trans (unhide HNW) hbx.size; have HSJ := hide hsx; clear hsx hbx; obtain ⟨K, hK⟩ : ∃ k, k = W4.heap.size := ⟨_, rfl⟩; have HK := hide hK; clear hK)
      | ((with_reducible refine wpList_alloc_state (by rfl) (by rfl) (some 5) (by rfl) K (unhide HK) ?_); intro W5 HX5 HB5 HS5; simp only [Act.put, List.setIfInBounds_toArray, List.set_cons_zero, List.set_cons_succ])
      | ((with_reducible refine wpList_alloc_dot (by rfl) (by rfl) (some 6) (by rfl) (K + 1) (unhide HS5).symm ?_); intro W6 HX6 HB6 HS6; simp only [Act.put, List.setIfInBounds_toArray, List.set_cons_zero, List.set_cons_succ]; have HY6 : Hid (W6.heap[K]? = some (stRow Sv.none 0 0)) := ((unhide HB6).block K (Nat.lt_succ_self _)).trans (unhide HX5))
      | ((with_reducible refine wpList_store_state (by rfl) (.tmp 5) (.tmp 26) (by rfl) K vt nt mt (by with_unfolding_all rfl) (by with_unfolding_all rfl) Sv.none 0 0 (unhide HY6) ?_); intro W7 HX7 HE7; simp only [Act.put]; have HY7 : Hid (W7.heap[K + 1]? = some (.cells #[.int .u32 0, .int .u64 0] 43 (0, 0))) := (by rw [unhide HE7]; exact (heapRow_other _ _ _ _ (Nat.succ_ne_self K)).trans (unhide HX6)))
      | ((with_reducible refine wpList_store_dot (by rfl) (.tmp 6) (.tmp 27) (by rfl) (K + 1) (k.x : Int) (xc : Int) (by with_unfolding_all rfl) (by with_unfolding_all rfl) (unhide HY7) ?_); intro W8 HX8 HE8; simp only [Act.put]; have HBX : Hid (Below W4.heap.size W4 W8) := (by rw [unhide HE8, unhide HE7, ← unhide HK]; exact belowRow (belowRow ((unhide HB5).trans ((unhide HB6).mono (Nat.le_succ _))) (Nat.le_refl _) _) (Nat.le_succ _) _); have HUW : Hid (Uw W8 N K s J vs vt ns ms nt mt k ao c nc k.x xc) := Uw.put (unhide HLS) (unhide HAS) (unhide HCT) (unhide HEC) (unhide HSJ) (unhide HBX) (by rw [unhide HE8]; exact (heapRow_other _ _ _ _ (Nat.ne_of_lt (Nat.lt_succ_self K))).trans (unhide HX7)) (unhide HX8); replace HBU : Hid (Below N u W8) := (unhide HBU).trans ((unhide HBX).mono (Nat.le_trans (Nat.le_add_right N 2) (unhide HNW))); replace HNW : Hid (N + 2 ≤ W8.heap.size) := Nat.le_trans (unhide HNW) (unhide HBX).size; clear HBX HX5 HB5 HS5 HX6 HB6 HS6 HY6 HX7 HE7 HY7 HX8 HE8 HSJ HLS HAS HCT HK; obtain ⟨s0, s1, t0, t1, a0, a1, a2, a3, d0, d1⟩ := (unhide HUW).cells)
      | (go_at_call 15; refine (kvValid true (unhide HVJ) (unhide HUW).new.toSx W8 (Below.refl _ _)).mono ?_; rintro e V1 ⟨rfl, hbx⟩; clear s0 s1 t0 t1 a0 a1 a2 a3 d0 d1; replace HUW := hide ((unhide HUW).below hbx); replace HBU : Hid (Below N u V1) := (unhide HBU).trans (hbx.mono (Nat.le_trans (Nat.le_add_right N 2) (unhide HNW))); replace HNW : Hid (N + 2 ≤ V1.heap.size) := Nat.le_trans (unhide HNW) hbx.size; clear hbx; obtain ⟨s0, s1, t0, t1, a0, a1, a2, a3, d0, d1⟩ := (unhide HUW).cells)
      | (go_at_call 19; refine (kvBelow true (unhide HBE) (unhide HUW).old.toSx (unhide HUW).new.toSx V1 (Below.refl _ _)).mono ?_; rintro e V2 ⟨rfl, hbx⟩; clear s0 s1 t0 t1 a0 a1 a2 a3 d0 d1; replace HUW := hide ((unhide HUW).below hbx); replace HBU : Hid (Below N u V2) := (unhide HBU).trans (hbx.mono (Nat.le_trans (Nat.le_add_right N 2) (unhide HNW))); replace HNW : Hid (N + 2 ≤ V2.heap.size) := Nat.le_trans (unhide HNW) hbx.size; clear hbx; obtain ⟨s0, s1, t0, t1, a0, a1, a2, a3, d0, d1⟩ := (unhide HUW).cells)
      | (go_at_call 17; refine (kvSame false (unhide HSF) (unhide HUW).old.toSx (unhide HUW).new.toSx V2 (Below.refl _ _)).mono ?_; rintro e V3 ⟨rfl, hbx⟩; clear s0 s1 t0 t1 a0 a1 a2 a3 d0 d1; replace HUW := hide ((unhide HUW).below hbx); replace HBU : Hid (Below N u V3) := (unhide HBU).trans (hbx.mono (Nat.le_trans (Nat.le_add_right N 2) (unhide HNW))); replace HNW : Hid (N + 2 ≤ V3.heap.size) := Nat.le_trans (unhide HNW) hbx.size; clear hbx; obtain ⟨s0, s1, t0, t1, a0, a1, a2, a3, d0, d1⟩ := (unhide HUW).cells)
      | (go_at_call 35; refine (kCovers k.x xc false (unhide HC1) (unhide HUW).old.en (unhide HUW).old.sat.seen V3 (Below.refl _ _)).mono ?_; rintro e V4 ⟨rfl, hbx⟩; clear s0 s1 t0 t1 a0 a1 a2 a3 d0 d1; replace HUW := hide ((unhide HUW).below hbx); replace HBU : Hid (Below N u V4) := (unhide HBU).trans (hbx.mono (Nat.le_trans (Nat.le_add_right N 2) (unhide HNW))); replace HNW : Hid (N + 2 ≤ V4.heap.size) := Nat.le_trans (unhide HNW) hbx.size; clear hbx HC1; obtain ⟨s0, s1, t0, t1, a0, a1, a2, a3, d0, d1⟩ := (unhide HUW).cells)
      | (go_at_call 35; refine (kCovers k.x xc false (unhide HC2) (unhide HUW).ec (unhide HUW).ctx V4 (Below.refl _ _)).mono ?_; rintro e V5 ⟨rfl, hbx⟩; clear s0 s1 t0 t1 a0 a1 a2 a3 d0 d1; replace HUW := hide ((unhide HUW).below hbx); replace HBU : Hid (Below N u V5) := (unhide HBU).trans (hbx.mono (Nat.le_trans (Nat.le_add_right N 2) (unhide HNW))); replace HNW : Hid (N + 2 ≤ V5.heap.size) := Nat.le_trans (unhide HNW) hbx.size; clear hbx HC2; obtain ⟨s0, s1, t0, t1, a0, a1, a2, a3, d0, d1⟩ := (unhide HUW).cells)
      | (go_at_call 35; refine (kCovers k.x xc true (unhide HC3) (unhide HUW).new.en (unhide HUW).new.sat.seen V5 (Below.refl _ _)).mono ?_; rintro e V6 ⟨rfl, hbx⟩; clear s0 s1 t0 t1 a0 a1 a2 a3 d0 d1; replace HUW := hide ((unhide HUW).below hbx); replace HBU : Hid (Below N u V6) := (unhide HBU).trans (hbx.mono (Nat.le_trans (Nat.le_add_right N 2) (unhide HNW))); replace HNW : Hid (N + 2 ≤ V6.heap.size) := Nat.le_trans (unhide HNW) hbx.size; clear hbx HC3; obtain ⟨s0, s1, t0, t1, a0, a1, a2, a3, d0, d1⟩ := (unhide HUW).cells)
      | (go_at_call 36; refine (kBelow true (unhide HVB) (unhide HUW).ec (unhide HUW).new.en (unhide HUW).ctx (unhide HUW).new.sat.seen V6 (Below.refl _ _)).mono ?_; rintro e V7 ⟨rfl, hbx⟩; clear s0 s1 t0 t1 a0 a1 a2 a3 d0 d1; replace HUW := hide ((unhide HUW).below hbx); replace HBU : Hid (Below N u V7) := (unhide HBU).trans (hbx.mono (Nat.le_trans (Nat.le_add_right N 2) (unhide HNW))); replace HNW : Hid (N + 2 ≤ V7.heap.size) := Nat.le_trans (unhide HNW) hbx.size; clear hbx; obtain ⟨s0, s1, t0, t1, a0, a1, a2, a3, d0, d1⟩ := (unhide HUW).cells)
      | fail)
    have HM64 : Hid (ms ≤ 64) := by show ms ≤ 64; rw [(unhide HUW).old.em]; exact (unhide HOS).len
    have HCV : Hid (∀ (W : World) (q : Sb) (r : Bool), Below V7.heap.size V7 W → (r = true ↔ cov k.ctx q.dot) → Calls Try.prog 35 #[.slice ao nc c, .agg #[.int .u32 (q.a : Int), .int .u64 (q.c : Int)]] W fun e W' => ∃ v, e = .returned v ∧ v = .bool r ∧ Below W.heap.size W W') := fun W q r hW hr => asV (kCovers q.a q.c r (by rw [covB_ok (unhide HOC), Bool.eq_iff_iff, decide_eq_true_eq, hr]; exact Iff.rfl) (unhide HUW).ec ((unhide HUW).ctx.below hW) W (Below.refl _ _))
    clear s0 s1 t0 t1 a0 a1 a2 a3 d0 d1
    go_loopw [8, 9] (fun t8 t9 wr => ∃ (i : Nat) (xp : Option Addr) (np cp : Nat), i ≤ ms ∧ t8 = .slice xp np cp ∧ t9 = .int .i64 (i : Int) ∧ Hid (np = (uns k.ctx (s.sibs.take i)).length ∧ OwnS wr V7.heap.size (uns k.ctx (s.sibs.take i)) xp cp ∧ Below V7.heap.size V7 wr)) (fun _ t9 _ => ms - (intOf t9).toNat)
    case atStart => exact ⟨0, none, 0, 0, Nat.zero_le _, rfl, rfl, rfl, OwnS.nil _ _, Below.refl _ _⟩
    case round =>
      obtain ⟨i, xp, np, cp, hi, rfl, rfl, HI⟩ := hrel
      obtain ⟨s0, s1, t0, t1, a0, a1, a2, a3, d0, d1⟩ := ((unhide HUW).below (unhide HI).2.2).cells
      have hmi : (ms : Int) ≤ 64 := by have := unhide HM64; omega
      by_cases hlt : i < ms
      · have hii : (i : Int) < (ms : Int) := by omega
        have hil : i < s.sibs.length := by rw [← (unhide HUW).old.em]; exact hlt
        obtain ⟨g, o, hao, x1, x2, x3, x4⟩ := (unhide HUW).old.sat.sibs.lies.sb hil
        have hix := ixS g o ms vs.bc i hlt
        have hA : ∀ W : World, Below V7.heap.size V7 W → W.cell? ⟨N + 1, 0, none⟩ = some (.slice ao nc c) ∧ W.cell? ⟨N, 1, none⟩ = some (.slice (some ⟨g, o, none⟩) ms vs.bc) := fun W hW => by
          have h := ((unhide HUW).below hW).cells
          rw [hao] at h
          exact ⟨h.2.2.2.2.1, h.2.1⟩
        rw [hao] at s1
        have HT := hide (uns_take k.ctx hil)
        have HLM : Hid ((uns k.ctx (s.sibs.take i)).length + 1 ≤ 1000) := by
          have h1 := uns_len k.ctx (s.sibs.take i)
          rw [List.length_take] at h1
          have := unhide HM64
          show (uns k.ctx (s.sibs.take i)).length + 1 ≤ 1000
          omega
        generalize s.sibs[i] = q at *
        generalize o + i * 4 = oo at *
        have hC : ∀ W : World, Below V7.heap.size V7 W → W.cell? ⟨g, oo, none⟩ = some (.int .u32 (q.a : Int)) ∧ W.cell? ⟨g, oo + 1, none⟩ = some (.int .u64 (q.c : Int)) ∧ W.cell? ⟨g, oo + 2, none⟩ = some (.bool q.gone) ∧ W.cell? ⟨g, oo + 3, none⟩ = some (.string q.val) := fun W hW => ⟨cell_keep rfl hW x1, cell_keep rfl hW x2, cell_keep rfl hW x3, cell_keep rfl hW x4⟩
        clear x1 x2 x3 x4
        generalize uns k.ctx (s.sibs.take i) = lk at *
        by_cases hcv : cov k.ctx q.dot
        · rw [if_pos hcv, List.append_nil] at HT
          have HCC := hide (fun W hW => unhide HCV W q true hW (by simp [hcv]))
          clear hcv
          go_wp2_with fail
          refine wp_region_last (fun W => Below V7.heap.size V7 W) 9 hmix (belowDrew (unhide HI).2.2) fun hS => ?_
          have HO1 : Hid (OwnS wr.drew V7.heap.size lk xp cp) := (unhide HI).2.1
          generalize wr.drew = Z1 at hS HO1 ⊢
          clear s0 s1 t0 t1 a0 a1 a2 a3 d0 d1
          refine wpAnyL_take 0 97 (.pointer (some ⟨N + 1, 0, none⟩)) [1, 8] rfl rfl (by kernel_rfl) (by kernel_rfl) (by kernel_rfl) (by kernel_rfl) (by kernel_rfl) (fun _ _ _ h => h) (by rfl) (fun _ _ => by go_simp) hS ?_
          simp only [Act.put, List.setIfInBounds_toArray, List.set_cons_zero, List.set_cons_succ]
          refine wpAnyL_take 1 98 (.slice ao nc c) [8] rfl rfl (by kernel_rfl) (by kernel_rfl) (by kernel_rfl) (by kernel_rfl) (by kernel_rfl) (fun _ _ _ h => h) (by rfl) (fun W hW => by have e1 := (hA W hW).1; go_simp) hS ?_
          simp only [Act.put, List.setIfInBounds_toArray, List.set_cons_zero, List.set_cons_succ]
          refine wpAnyL_take 2 99 (.pointer (some ⟨N, 1, none⟩)) [3, 5, 6, 7, 8] rfl rfl (by kernel_rfl) (by kernel_rfl) (by kernel_rfl) (by kernel_rfl) (by kernel_rfl) (fun _ _ _ h => h) (by rfl) (fun _ _ => by go_simp) hS ?_
          simp only [Act.put, List.setIfInBounds_toArray, List.set_cons_zero, List.set_cons_succ]
          refine wpAnyL_take 3 100 (.slice (some ⟨g, o, none⟩) ms vs.bc) [5, 6, 7, 8] rfl rfl (by kernel_rfl) (by kernel_rfl) (by kernel_rfl) (by kernel_rfl) (by kernel_rfl) (fun _ _ _ h => h) (by rfl) (fun W hW => by have e1 := (hA W hW).2; go_simp) hS ?_
          simp only [Act.put, List.setIfInBounds_toArray, List.set_cons_zero, List.set_cons_succ]
          refine wpAnyL_take 4 101 (.int .i64 (i : Int)) [5, 6, 7, 8] rfl rfl (by kernel_rfl) (by kernel_rfl) (by kernel_rfl) (by kernel_rfl) (by kernel_rfl) (fun _ _ _ h => h) (by rfl) (fun _ _ => by go_simp) hS ?_
          simp only [Act.put, List.setIfInBounds_toArray, List.set_cons_zero, List.set_cons_succ]
          refine wpAnyL_take 5 102 (.pointer (some ⟨g, oo, none⟩)) [6, 7, 8] rfl rfl (by kernel_rfl) (by kernel_rfl) (by kernel_rfl) (by kernel_rfl) (by kernel_rfl) (fun _ _ _ h => h) (by rfl) (fun _ _ => by go_simp) hS ?_
          simp only [Act.put, List.setIfInBounds_toArray, List.set_cons_zero, List.set_cons_succ]
          refine wpAnyL_take 6 103 (.pointer (some ⟨g, oo, none⟩)) [7, 8] rfl rfl (by kernel_rfl) (by kernel_rfl) (by kernel_rfl) (by kernel_rfl) (by kernel_rfl) (fun _ _ _ h => h) (by rfl) (fun _ _ => by go_simp) hS ?_
          simp only [Act.put, List.setIfInBounds_toArray, List.set_cons_zero, List.set_cons_succ]
          refine wpAnyL_take 7 104 (.agg #[.int .u32 (q.a : Int), .int .u64 (q.c : Int)]) [8] rfl rfl (by kernel_rfl) (by kernel_rfl) (by kernel_rfl) (by kernel_rfl) (by kernel_rfl) (fun _ _ _ h => h) (by rfl) (fun W hW => by obtain ⟨e1, e2, e3, e4⟩ := hC W hW; go_simp) hS ?_
          simp only [Act.put, List.setIfInBounds_toArray, List.set_cons_zero, List.set_cons_succ]
          refine wpAnyL_one (i := 8) (by kernel_rfl) rfl (by rfl) fun K hK => ?_
          refine wp_call_fn 35 _ _ (by rfl) #[.slice ao nc c, .agg #[.int .u32 (q.a : Int), .int .u64 (q.c : Int)]] (by with_unfolding_all rfl) entCv (some 105) (by rfl) _ (unhide HCC Z1 hS) ?_
          rintro _ X5 ⟨rfl, hbe⟩
          have HB5 : Hid (Below V7.heap.size V7 X5) := hS.trans (hbe.mono hS.size)
          have HO5 := hide (OwnS.below (unhide HO1) hbe)
          clear hbe
          refine hK _ _ (fun _ => unhide HB5) ?_
          clear hK K
          simp only [Act.put, List.setIfInBounds_toArray, List.set_cons_zero, List.set_cons_succ]
          refine wpAnyL_one (i := 9) (by kernel_rfl) rfl (by rfl) fun K hK => ?_
          refine wp_val (.bool false) (by go_simp) (some 106) (by rfl) ?_
          refine hK _ _ (fun _ => unhide HB5) ?_
          clear hK K
          simp only [Act.put, List.setIfInBounds_toArray, List.set_cons_zero, List.set_cons_succ]
          refine wpAnyL_done (by kernel_rfl) ?_ _
          go_wp2_with fail
          go_roundw
          case rel => exact ⟨i + 1, xp, np, cp, by omega, rfl, by go_num, by rw [unhide HT]; exact (unhide HI).1, by rw [unhide HT]; exact unhide HO5, unhide HB5⟩
          case measure => simp [intOf]; omega
        · rw [if_neg hcv] at HT
          have HCC := hide (fun W hW => unhide HCV W q false hW (by simp [hcv]))
          clear hcv
          go_wp2_with fail
          refine wp_region_last (fun W => Below V7.heap.size V7 W) 9 hmix (belowDrew (unhide HI).2.2) fun hS => ?_
          have HO1 : Hid (OwnS wr.drew V7.heap.size lk xp cp) := (unhide HI).2.1
          generalize wr.drew = Z1 at hS HO1 ⊢
          clear s0 s1 t0 t1 a0 a1 a2 a3 d0 d1
          refine wpAnyL_take 0 97 (.pointer (some ⟨N + 1, 0, none⟩)) [1, 8] rfl rfl (by kernel_rfl) (by kernel_rfl) (by kernel_rfl) (by kernel_rfl) (by kernel_rfl) (fun _ _ _ h => h) (by rfl) (fun _ _ => by go_simp) hS ?_
          simp only [Act.put, List.setIfInBounds_toArray, List.set_cons_zero, List.set_cons_succ]
          refine wpAnyL_take 1 98 (.slice ao nc c) [8] rfl rfl (by kernel_rfl) (by kernel_rfl) (by kernel_rfl) (by kernel_rfl) (by kernel_rfl) (fun _ _ _ h => h) (by rfl) (fun W hW => by have e1 := (hA W hW).1; go_simp) hS ?_
          simp only [Act.put, List.setIfInBounds_toArray, List.set_cons_zero, List.set_cons_succ]
          refine wpAnyL_take 2 99 (.pointer (some ⟨N, 1, none⟩)) [3, 5, 6, 7, 8] rfl rfl (by kernel_rfl) (by kernel_rfl) (by kernel_rfl) (by kernel_rfl) (by kernel_rfl) (fun _ _ _ h => h) (by rfl) (fun _ _ => by go_simp) hS ?_
          simp only [Act.put, List.setIfInBounds_toArray, List.set_cons_zero, List.set_cons_succ]
          refine wpAnyL_take 3 100 (.slice (some ⟨g, o, none⟩) ms vs.bc) [5, 6, 7, 8] rfl rfl (by kernel_rfl) (by kernel_rfl) (by kernel_rfl) (by kernel_rfl) (by kernel_rfl) (fun _ _ _ h => h) (by rfl) (fun W hW => by have e1 := (hA W hW).2; go_simp) hS ?_
          simp only [Act.put, List.setIfInBounds_toArray, List.set_cons_zero, List.set_cons_succ]
          refine wpAnyL_take 4 101 (.int .i64 (i : Int)) [5, 6, 7, 8] rfl rfl (by kernel_rfl) (by kernel_rfl) (by kernel_rfl) (by kernel_rfl) (by kernel_rfl) (fun _ _ _ h => h) (by rfl) (fun _ _ => by go_simp) hS ?_
          simp only [Act.put, List.setIfInBounds_toArray, List.set_cons_zero, List.set_cons_succ]
          refine wpAnyL_take 5 102 (.pointer (some ⟨g, oo, none⟩)) [6, 7, 8] rfl rfl (by kernel_rfl) (by kernel_rfl) (by kernel_rfl) (by kernel_rfl) (by kernel_rfl) (fun _ _ _ h => h) (by rfl) (fun _ _ => by go_simp) hS ?_
          simp only [Act.put, List.setIfInBounds_toArray, List.set_cons_zero, List.set_cons_succ]
          refine wpAnyL_take 6 103 (.pointer (some ⟨g, oo, none⟩)) [7, 8] rfl rfl (by kernel_rfl) (by kernel_rfl) (by kernel_rfl) (by kernel_rfl) (by kernel_rfl) (fun _ _ _ h => h) (by rfl) (fun _ _ => by go_simp) hS ?_
          simp only [Act.put, List.setIfInBounds_toArray, List.set_cons_zero, List.set_cons_succ]
          refine wpAnyL_take 7 104 (.agg #[.int .u32 (q.a : Int), .int .u64 (q.c : Int)]) [8] rfl rfl (by kernel_rfl) (by kernel_rfl) (by kernel_rfl) (by kernel_rfl) (by kernel_rfl) (fun _ _ _ h => h) (by rfl) (fun W hW => by obtain ⟨e1, e2, e3, e4⟩ := hC W hW; go_simp) hS ?_
          simp only [Act.put, List.setIfInBounds_toArray, List.set_cons_zero, List.set_cons_succ]
          refine wpAnyL_one (i := 8) (by kernel_rfl) rfl (by rfl) fun K hK => ?_
          refine wp_call_fn 35 _ _ (by rfl) #[.slice ao nc c, .agg #[.int .u32 (q.a : Int), .int .u64 (q.c : Int)]] (by with_unfolding_all rfl) entCv (some 105) (by rfl) _ (unhide HCC Z1 hS) ?_
          rintro _ X5 ⟨rfl, hbe⟩
          have HB5 : Hid (Below V7.heap.size V7 X5) := hS.trans (hbe.mono hS.size)
          have HO5 := hide (OwnS.below (unhide HO1) hbe)
          clear hbe
          refine hK _ _ (fun _ => unhide HB5) ?_
          clear hK K
          simp only [Act.put, List.setIfInBounds_toArray, List.set_cons_zero, List.set_cons_succ]
          refine wpAnyL_one (i := 9) (by kernel_rfl) rfl (by rfl) fun K hK => ?_
          refine wp_val (.bool true) (by go_simp) (some 106) (by rfl) ?_
          refine hK _ _ (fun _ => unhide HB5) ?_
          clear hK K
          simp only [Act.put, List.setIfInBounds_toArray, List.set_cons_zero, List.set_cons_succ]
          refine wpAnyL_done (by kernel_rfl) ?_ _
          obtain ⟨y0, y1⟩ := hA X5 (unhide HB5)
          obtain ⟨z1, z2, z3, z4⟩ := hC X5 (unhide HB5)
          have HO4 := hide ((unhide HO5).below ((Below.refl _ X5).alloc (Nat.le_refl _) (.cells #[.int .u32 (q.a : Int), .int .u64 (q.c : Int), .bool q.gone, .string q.val] 56)))
          have HBA : Hid (Below V7.heap.size V7 (X5.alloc (.cells #[.int .u32 (q.a : Int), .int .u64 (q.c : Int), .bool q.gone, .string q.val] 56))) := (unhide HB5).trans (((Below.refl _ X5).alloc (Nat.le_refl _) _).mono (unhide HB5).size)
          go_wp2_with (first
            | (at_builtin; refine wpList_putS (by rfl) (.tmp 107) (.tmp 113) (by rfl) (some 114) (by rfl) V7.heap.size lk [q] np 1 (unhide HI).1 rfl xp (some ⟨X5.heap.size, 0, none⟩) cp 1 (by rfl) (by rfl) (unhide HO4) (Dw.one X5 q 56) (by have := unhide HLM; simp only [List.length_cons, List.length_nil]; omega) (unhide HBA).size ?_; intro x5 n5 c5 W5 EN5 HO6 _ HBE5 _; simp only [Act.put, List.setIfInBounds_toArray, List.set_cons_zero, List.set_cons_succ]; have HB6 : Hid (Below V7.heap.size V7 W5) := (unhide HBA).trans (unhide HBE5))
            | fail)
          go_roundw
          case rel => exact ⟨i + 1, x5, n5, c5, by omega, rfl, by go_num, by rw [unhide HT]; exact unhide EN5, by rw [unhide HT]; exact unhide HO6, unhide HB6⟩
          case measure => simp [intOf]; omega
      · obtain rfl : i = ms := by omega
        have hki : ¬ (i : Int) < (i : Int) := by omega
        have HL : Hid (s.sibs.take i = s.sibs) := List.take_of_length_le (by rw [(unhide HUW).old.em]; exact Nat.le_refl _)
        rw [unhide HL] at HI
        clear hi hlt HL
        go_wp2_with fail
        obtain ⟨U2, rfl⟩ : ∃ U, U = wr := ⟨_, rfl⟩
        obtain ⟨p, hp, hcut⟩ := btw_cut (uns k.ctx s.sibs) ⟨k.x, xc, k.gone, k.val⟩
        have hJS := (unhide HPO).sibs.trans hcut
        obtain ⟨hlen, hat, hoth⟩ := cut_at hp hJS
        have HMT : Hid (mt = np + 1) := by show mt = np + 1; rw [(unhide HUW).new.em, hlen, (unhide HI).1]
        have HNJ : Hid (∀ z ∈ uns k.ctx s.sibs, ¬ (z.a = k.x ∧ z.c = xc)) := fun z hz hd => (unhide HPO).ns (by
          have h1 := (unhide HOS).cvd z (mem_uns.1 hz).1
          rwa [show z.dot = (k.x, xc) from Prod.ext hd.1 hd.2] at h1)
        have HKM : Hid (kk p mt = np ∧ pp p mt = 1) := by
          have h1 := unhide HMT
          have h2 := (unhide HI).1
          refine ⟨?_, ?_⟩
          · unfold kk; rw [if_neg (by omega)]; omega
          · unfold pp; rw [if_neg (by omega)]
        have HPM : Hid (p < mt) := by have h1 := unhide HMT; have h2 := (unhide HI).1; show p < mt; omega
        have HAT := hide hat
        have HOT := hide hoth
        have HNL : Hid (np ≤ 64) := by have h1 := (unhide HI).1; have h2 := uns_len k.ctx s.sibs; have h3 := (unhide HOS).len; show np ≤ 64; omega
        clear hcut hJS hlen hat hoth hp s0 s1 t0 t1 a0 a1 a2 a3 d0 d1
        go_loopw [10, 11, 12] (fun t10 t11 t12 w2 => ∃ (j kj pj : Nat), j ≤ mt ∧ t12 = .int .i64 (j : Int) ∧ t10 = .int .i64 (kj : Int) ∧ t11 = .int .i64 (pj : Int) ∧ Hid (kj = kk p j ∧ pj = pp p j) ∧ Hid (Below U2.heap.size U2 w2)) (fun _ _ t12 _ => mt - (intOf t12).toNat)
        case atStart => exact ⟨0, 0, 0, Nat.zero_le _, rfl, rfl, rfl, ⟨by simp [kk], by simp [pp]⟩, Below.refl _ _⟩
        case round =>
          obtain ⟨j, kj, pj, hj, rfl, rfl, rfl, HK, HBQ0⟩ := hrel
          have HUR : Hid (∀ W : World, Below U2.heap.size U2 W → Uw W N K s J vs vt ns i nt mt k ao c nc k.x xc) := fun W hW => (unhide HUW).below ((unhide HI).2.2.trans (hW.mono (unhide HI).2.2.size))
          have hnp : (np : Int) ≤ 64 := by have := unhide HNL; omega
          have hmt : (mt : Int) = (np : Int) + 1 := by have := unhide HMT; omega
          have HMI := hide hmt
          clear hmt
          have hmt : (mt : Int) ≤ 65 := by have := unhide HMI; omega
          have hpj : (pj : Int) ≤ 1 := by have := (unhide HK).2; unfold pp at this; split at this <;> omega
          by_cases hlt : j < mt
          · have hji : (j : Int) < (mt : Int) := by omega
            have hjl : j < J.sibs.length := by rw [← (unhide HUW).new.em]; exact hlt
            obtain ⟨g, o, hao, x1, x2, x3, x4⟩ := (unhide HUR _ (Below.refl _ _)).new.sat.sibs.lies.sb hjl
            have hix := ixS g o mt vt.bc j hlt
            by_cases hjp : j = p
            · have e : J.sibs[j] = ⟨k.x, xc, k.gone, k.val⟩ := by subst hjp; exact unhide HAT hjl
              rw [e] at x1 x2 x3 x4
              have HK1 : Hid (kj = kk p (j + 1) ∧ pj + 1 = pp p (j + 1)) := by
                rw [(unhide HK).1, (unhide HK).2, hjp]
                refine ⟨?_, ?_⟩
                · unfold kk; rw [if_pos (Nat.le_refl _), if_neg (by omega)]; omega
                · unfold pp; rw [if_pos (Nat.le_refl _), if_neg (by omega)]
              clear e hjp
              generalize o + j * 4 = oo at *
              have hAll : ∀ W : World, Below U2.heap.size U2 W → W.cell? ⟨K, 0, none⟩ = some (.slice vt.sa nt vt.sc) ∧ W.cell? ⟨K, 1, none⟩ = some (.slice (some ⟨g, o, none⟩) mt vt.bc) ∧ W.cell? ⟨N + 1, 0, none⟩ = some (.slice ao nc c) ∧ W.cell? ⟨N + 1, 1, none⟩ = some (.int .u32 (k.x : Int)) ∧ W.cell? ⟨N + 1, 2, none⟩ = some (.string k.val) ∧ W.cell? ⟨N + 1, 3, none⟩ = some (.bool k.gone) ∧ W.cell? ⟨K + 1, 0, none⟩ = some (.int .u32 (k.x : Int)) ∧ W.cell? ⟨K + 1, 1, none⟩ = some (.int .u64 (xc : Int)) ∧
                  W.cell? ⟨g, oo, none⟩ = some (.int .u32 (k.x : Int)) ∧ W.cell? ⟨g, oo + 1, none⟩ = some (.int .u64 (xc : Int)) ∧ W.cell? ⟨g, oo + 2, none⟩ = some (.bool k.gone) ∧ W.cell? ⟨g, oo + 3, none⟩ = some (.string k.val) := fun W hW => by
                have h := (unhide HUR W hW).cells
                rw [hao] at h
                exact ⟨h.2.2.1, h.2.2.2.1, h.2.2.2.2.1, h.2.2.2.2.2.1, h.2.2.2.2.2.2.1, h.2.2.2.2.2.2.2.1, h.2.2.2.2.2.2.2.2.1, h.2.2.2.2.2.2.2.2.2, cell_keep rfl hW x1, cell_keep rfl hW x2, cell_keep rfl hW x3, cell_keep rfl hW x4⟩
              have heq : ∀ W : World, (binOp .eql 43 (.agg #[.int .u32 (k.x : Int), .int .u64 (xc : Int)]) (.agg #[.int .u32 (k.x : Int), .int .u64 (xc : Int)])).run Try.prog W = .ok (.bool true) W := fun W => by rw [eqlD]; simp
              have hne : ∀ W : World, (binOp .neq 56 (.agg #[.int .u32 (k.x : Int), .int .u64 (xc : Int), .bool k.gone, .string k.val]) (.agg #[.int .u32 (k.x : Int), .int .u64 (xc : Int), .bool k.gone, .string k.val])).run Try.prog W = .ok (.bool false) W := fun W => by
                have h := neqS ⟨k.x, xc, k.gone, k.val⟩ ⟨k.x, xc, k.gone, k.val⟩ W
                rw [eqB_true.2 rfl] at h
                exact h
              clear x1 x2 x3 x4 hao
              obtain ⟨w1, w2, w3, w4, w5, w6, w7, w8, w9, w10, w11, w12⟩ := hAll wr (unhide HBQ0)
              go_wp2_with fail
              go_quiet (fail)
              have HBQ1 : Hid (Below U2.heap.size U2 (wr.drewN nq)) := belowDrewN (unhide HBQ0) _
              generalize wr.drewN nq = Q1 at HBQ1 ⊢
              clear w1 w2 w3 w4 w5 w6 w7 w8 w9 w10 w11 w12
              obtain ⟨w1, w2, w3, w4, w5, w6, w7, w8, w9, w10, w11, w12⟩ := hAll Q1 (unhide HBQ1)
              go_wp2_with fail
              go_quiet (fail)
              have HBQ2 : Hid (Below U2.heap.size U2 (Q1.drewN nq)) := belowDrewN (unhide HBQ1) _
              generalize Q1.drewN nq = Q2 at HBQ2 ⊢
              clear w1 w2 w3 w4 w5 w6 w7 w8 w9 w10 w11 w12
              obtain ⟨w1, w2, w3, w4, w5, w6, w7, w8, w9, w10, w11, w12⟩ := hAll Q2 (unhide HBQ2)
              go_wp2_with fail
              go_roundw
              case rel => exact ⟨j + 1, kj, pj + 1, by omega, by go_num, rfl, by go_num, HK1, HBQ2⟩
              case measure => simp [intOf]; omega
            · obtain ⟨hkl, hel, hk1, hp1⟩ := unhide HOT j hjl hjp
              rw [hel] at x1 x2 x3 x4
              obtain ⟨g2, o2, hao2, y1, y2, y3, y4⟩ := (unhide HI).2.1.dw.lies.sb hkl
              subst hao2
              have hkj : kj < np := by rw [(unhide HK).1, (unhide HI).1]; exact hkl
              have hix2 := ixS g2 o2 np cp kj hkj
              have hnd := unhide HNJ _ (List.getElem_mem hkl)
              have HK1 : Hid (kj + 1 = kk p (j + 1) ∧ pj = pp p (j + 1)) := by rw [hk1, hp1, (unhide HK).1, (unhide HK).2]; exact ⟨rfl, rfl⟩
              clear hel hk1 hp1
              generalize (uns k.ctx s.sibs)[kk p j] = q at *
              rw [← (unhide HK).1] at y1 y2 y3 y4
              generalize o + j * 4 = oo at *
              generalize o2 + kj * 4 = oo2 at *
              have hkn : (kj : Int) < (np : Int) := by omega
              have hkn2 : ¬ (np : Int) ≤ (kj : Int) := by omega
              have hAll : ∀ W : World, Below U2.heap.size U2 W → W.cell? ⟨K, 0, none⟩ = some (.slice vt.sa nt vt.sc) ∧ W.cell? ⟨K, 1, none⟩ = some (.slice (some ⟨g, o, none⟩) mt vt.bc) ∧ W.cell? ⟨N + 1, 0, none⟩ = some (.slice ao nc c) ∧ W.cell? ⟨N + 1, 1, none⟩ = some (.int .u32 (k.x : Int)) ∧ W.cell? ⟨N + 1, 2, none⟩ = some (.string k.val) ∧ W.cell? ⟨N + 1, 3, none⟩ = some (.bool k.gone) ∧ W.cell? ⟨K + 1, 0, none⟩ = some (.int .u32 (k.x : Int)) ∧ W.cell? ⟨K + 1, 1, none⟩ = some (.int .u64 (xc : Int)) ∧
                  W.cell? ⟨g, oo, none⟩ = some (.int .u32 (q.a : Int)) ∧ W.cell? ⟨g, oo + 1, none⟩ = some (.int .u64 (q.c : Int)) ∧ W.cell? ⟨g, oo + 2, none⟩ = some (.bool q.gone) ∧ W.cell? ⟨g, oo + 3, none⟩ = some (.string q.val) ∧
                  W.cell? ⟨g2, oo2, none⟩ = some (.int .u32 (q.a : Int)) ∧ W.cell? ⟨g2, oo2 + 1, none⟩ = some (.int .u64 (q.c : Int)) ∧ W.cell? ⟨g2, oo2 + 2, none⟩ = some (.bool q.gone) ∧ W.cell? ⟨g2, oo2 + 3, none⟩ = some (.string q.val) := fun W hW => by
                have h := (unhide HUR W hW).cells
                rw [hao] at h
                exact ⟨h.2.2.1, h.2.2.2.1, h.2.2.2.2.1, h.2.2.2.2.2.1, h.2.2.2.2.2.2.1, h.2.2.2.2.2.2.2.1, h.2.2.2.2.2.2.2.2.1, h.2.2.2.2.2.2.2.2.2, cell_keep rfl hW x1, cell_keep rfl hW x2, cell_keep rfl hW x3, cell_keep rfl hW x4, cell_keep rfl hW y1, cell_keep rfl hW y2, cell_keep rfl hW y3, cell_keep rfl hW y4⟩
              have heq : ∀ W : World, (binOp .eql 43 (.agg #[.int .u32 (q.a : Int), .int .u64 (q.c : Int)]) (.agg #[.int .u32 (k.x : Int), .int .u64 (xc : Int)])).run Try.prog W = .ok (.bool false) W := fun W => by
                rw [eqlD, beq_nat, beq_nat, ← Bool.decide_and, decide_eq_false hnd]
              have hne : ∀ W : World, (binOp .neq 56 (.agg #[.int .u32 (q.a : Int), .int .u64 (q.c : Int), .bool q.gone, .string q.val]) (.agg #[.int .u32 (q.a : Int), .int .u64 (q.c : Int), .bool q.gone, .string q.val])).run Try.prog W = .ok (.bool false) W := fun W => by
                have h := neqS q q W
                rw [eqB_true.2 rfl] at h
                exact h
              clear x1 x2 x3 x4 y1 y2 y3 y4 hao hnd hjp
              obtain ⟨w1, w2, w3, w4, w5, w6, w7, w8, w9, w10, w11, w12, w13, w14, w15, w16⟩ := hAll wr (unhide HBQ0)
              go_wp2_with fail
              go_quiet (fail)
              have HBQ1 : Hid (Below U2.heap.size U2 (wr.drewN nq)) := belowDrewN (unhide HBQ0) _
              generalize wr.drewN nq = Q1 at HBQ1 ⊢
              clear w1 w2 w3 w4 w5 w6 w7 w8 w9 w10 w11 w12 w13 w14 w15 w16
              obtain ⟨w1, w2, w3, w4, w5, w6, w7, w8, w9, w10, w11, w12, w13, w14, w15, w16⟩ := hAll Q1 (unhide HBQ1)
              go_wp2_with fail
              go_quiet (fail)
              have HBQ2 : Hid (Below U2.heap.size U2 (Q1.drewN nq)) := belowDrewN (unhide HBQ1) _
              generalize Q1.drewN nq = Q2 at HBQ2 ⊢
              clear w1 w2 w3 w4 w5 w6 w7 w8 w9 w10 w11 w12 w13 w14 w15 w16
              obtain ⟨w1, w2, w3, w4, w5, w6, w7, w8, w9, w10, w11, w12, w13, w14, w15, w16⟩ := hAll Q2 (unhide HBQ2)
              go_wp2_with fail
              go_roundw
              case rel => exact ⟨j + 1, kj + 1, pj, by omega, by go_num, by go_num, rfl, HK1, HBQ2⟩
              case measure => simp [intOf]; omega
          · obtain rfl : j = mt := by omega
            have hji : ¬ (j : Int) < (j : Int) := by omega
            obtain rfl : kj = np := (unhide HK).1.trans (unhide HKM).1
            obtain rfl : pj = 1 := (unhide HK).2.trans (unhide HKM).2
            obtain ⟨s0, s1, t0, t1, a0, a1, a2, a3, d0, d1⟩ := (unhide HUR _ (unhide HBQ0)).cells
            go_wp2_with fail
            go_ret
            exact ⟨rfl, (unhide HBU).trans (((unhide HI).2.2.trans ((unhide HBQ0).mono (unhide HI).2.2.size)).mono (Nat.le_trans (Nat.le_add_right N 2) (unhide HNW)))⟩
end Go.Proofs.Ytbahfpcfjhifbaa
