/- Objects: Put (written by mkoj.py). -/
import Derived.Test.YtkcbljmjhlnjpaaQ22
namespace Go.Proofs.Ytkcbljmjhlnjpaa
open Go.RowKit Go.Lib
/-- what the closure of Put leaves -/
structure TellU (u W W' : World) (J : Ot) (B gd : Nat) (od : Obj) (x : Sv) (k l : Nat) : Prop where
  ek : k = J.st.seen.length
  el : l = J.st.sibs.length
  own : OwnT W' B J.st x
  bel : U1 W W' gd
  far : ∀ g, x.has k l g → g < u.heap.size ∨ W.heap.size ≤ g
  dot : W'.heap[gd]? = some od
theorem U1.row {w w' : World} {g b : Nat} (h : U1 w w' g) (hb : w.heap.size ≤ b) (cs : Array Value) : U1 w (w'.setRow b cs) g :=
  ⟨h.os, h.tape, h.output, by rw [size_setRow]; exact h.size, fun k hk hn => (heapRow_other _ _ _ _ (by omega)).trans (h.block k hk hn)⟩
theorem U1.row' {w w' : World} {g : Nat} (h : U1 w w' g) (cs : Array Value) : U1 w (w'.setRow g cs) g :=
  ⟨h.os, h.tape, h.output, by rw [size_setRow]; exact h.size, fun k hk hn => (heapRow_other _ _ _ _ hn).trans (h.block k hk hn)⟩
set_option maxRecDepth 100000 in
set_option maxHeartbeats 4000000 in
theorem oMayP {u : World} {o : Ot} {v : Sv} {n m : Nat} (h : Sx u o.st v n m) (F : FuncId) (caps : Array Value) (hent : ∀ args (w : World), (callFunc F args).run Try.prog w = .ok (.enter F args) w) (J : Ot) (r : Int) (B : Nat) (gd : Nat) (hgd : gd < u.heap.size) (od : Obj)
    (hgo : ckE o = 0 → ∀ W, Below u.heap.size u W → Calls Try.prog F (#[.string ⟨(stB o.st).toArray⟩] ++ caps) W fun e W' => ∃ y, e = .returned y ∧ ∃ x k l, y = .tuple #[obV J.key x k l, .int .i64 r] ∧ TellU u W W' J B gd od x k l)
    (hno : ckE o ≠ 0 → J = Ot.none ∧ r = ckE o) :
    Calls Try.prog 47 #[obV o.key v n m, .func (.func F) #[] caps] u fun e u' => ∃ x k l, e = .returned (.tuple #[obV J.key x k l, .int .i64 r]) ∧ k = J.st.seen.length ∧ l = J.st.sibs.length ∧ OwnT u' B J.st x ∧ U1 u u' gd ∧ (ckE o = 0 → u'.heap[gd]? = some od) := by
  obtain ⟨N, hN⟩ : ∃ N, N = u.heap.size := ⟨_, rfl⟩
  have HN := hide hN
  have HU : Hid (∀ W : World, Below N u W → Below u.heap.size u W) := fun W hW => by rw [← unhide HN]; exact hW
  rw [hN.symm] at hgd
  have HGD := hide hgd
  clear hN hgd
  have HO := hide h
  have HF := hide hent
  clear h hent
  by_cases h1 : keyE o.key = 0
  · have HK := hide h1
    by_cases h2 : SOk o.st
    · have HE := hide (encT_ok h2)
      have hz := size_st o.st
      by_cases h3 : (stB o.st).length ≤ 280
      · have HG := hide (hgo (ck_zero.2 ⟨keyE_zero.1 h1, h2, h3⟩))
        clear hno hgo
        generalize (⟨(stB o.st).toArray⟩ : ByteArray) = b at *
        have hb : ¬ (b.size : Int) > 280 := by omega
        clear hz h3 h2 h1
        go_enter Try.func47, Try.ntmps47
        go_wp2_with (first
          | ((with_reducible refine wpList_box_ob (by rfl) (.tmp 0) (by rfl) (some 2) (by rfl) N (unhide HN) o.key v n m (by with_unfolding_all rfl) ?_); intro W1 HX1 HB1 HS1; simp only [Act.put, List.setIfInBounds_toArray, List.set_cons_zero, List.set_cons_succ])
          | ((with_reducible refine wpList_alloc_ob (by rfl) (by rfl) (some 4) (by rfl) (N + 1) (unhide HS1).symm ?_); intro W2 HX2 HB2 HS2; simp only [Act.put, List.setIfInBounds_toArray, List.set_cons_zero, List.set_cons_succ])
          | ((with_reducible refine wpList_alloc_ob (by rfl) (by rfl) (some 6) (by rfl) (N + 1 + 1) (unhide HS2).symm ?_); intro W3 HX3 HB3 HS3; simp only [Act.put, List.setIfInBounds_toArray, List.set_cons_zero, List.set_cons_succ]; have HBU : Hid (Below N u W3) := (unhide HB1).trans (((unhide HB2).mono (Nat.le_succ _)).trans ((unhide HB3).mono (by omega))); have HLO : Hid (Lo W3 N o v n m) := ⟨(unhide HO).below (unhide HU _ (unhide HBU)), ((unhide HB3).block N (by omega)).trans (((unhide HB2).block N (Nat.lt_succ_self _)).trans (unhide HX1))⟩; replace HX2 : Hid (W3.heap[N + 1]? = _) := ((unhide HB3).block (N + 1) (Nat.lt_succ_self _)).trans (unhide HX2); obtain ⟨c0, c1, c2⟩ := (unhide HLO).cells; obtain ⟨d0, d1, d2⟩ := ob_cells (unhide HX3); clear HX1 HB1 HB2 HB3)
          | (go_at_call 12; refine (oKey o.key _).mono ?_; rintro e W4 ⟨rfl, rfl⟩; rw [unhide HK])
          | (go_at_call 87; refine (kvEncode (unhide HE) (unhide HLO).toSx).mono ?_; rintro e W5 ⟨rfl, hb⟩; clear c0 c1 c2; clear d0 d1 d2; replace HX2 := hide (box_below (unhide HX2) hb); replace HX3 := hide (box_below (unhide HX3) hb); obtain ⟨d0, d1, d2⟩ := ob_cells (unhide HX3); replace HBU : Hid (Below N u W5) := (unhide HBU).trans (hb.mono (by rw [unhide HS3]; omega)); have HS5 : Hid (N + 1 + 1 + 1 ≤ W5.heap.size) := (by have := hb.size; rw [unhide HS3] at this; exact this); clear hb HLO)
          | ((with_reducible refine wpList_callv (by rfl) (.tmp 31) (.tmp 32) _ (by rfl) F caps (by with_unfolding_all rfl) (.string b) (by with_unfolding_all rfl) (unhide HF) (some 33) (by rfl) _ (unhide HG W5 (unhide HU _ (unhide HBU))) ?_); rintro _ W6 ⟨x, k, l, rfl, ht⟩; simp only [Act.put, List.setIfInBounds_toArray, List.set_cons_zero, List.set_cons_succ]; have HT := hide ht; replace HX2 := hide ((ht.bel.block (N + 1) (by have := unhide HS5; omega) (by have := unhide HGD; omega)).trans (unhide HX2)); have HU6 : Hid (U1 u W6 gd) := (U1.below' (unhide HU _ (unhide HBU))).trans ht.bel; clear ht; simp only [obV])
          | ((with_reducible refine wpList_store_ob (by rfl) (.tmp 4) (.tmp 34) (by rfl) (N + 1) J.key x k l (by with_unfolding_all rfl) (by with_unfolding_all rfl) _ _ _ _ (unhide HX2) ?_); intro W7 HX7 HE7; simp only [Act.put])
          | fail)
        refine bodyPost_ret (results_cell_tmp rfl _ _ (N + 1) 33 #[.string J.key, .slice x.sa k x.sc, .slice x.ba l x.bc] (0, 0) _ rfl (unhide HX7) obUnd rfl obInfo) rfl ?_
        refine ⟨x, k, l, rfl, (unhide HT).ek, (unhide HT).el, ?_, by rw [unhide HE7]; exact (unhide HU6).row (by rw [← unhide HN]; omega) _, fun _ => by rw [unhide HE7]; exact (heapRow_other _ _ _ _ (by have := unhide HGD; omega)).trans (unhide HT).dot⟩
        rw [unhide HE7]
        refine (unhide HT).own.keep fun g hg => heapRow_other _ _ _ _ ?_
        rw [← (unhide HT).ek, ← (unhide HT).el] at hg
        have h1 := (unhide HT).far g hg
        have h2 := unhide HS5
        rw [← unhide HN] at h1
        omega
      · have hc : ckE o = 82 := by unfold ckE; rw [if_pos h1, encT_ok h2, if_pos rfl, size_st, if_neg h3]
        rw [hc] at hno
        have HCN : Hid (ckE o ≠ 0) := by show ckE o ≠ 0; rw [hc]; decide
        obtain ⟨rfl, rfl⟩ := hno (by decide)
        clear hgo hno hc
        generalize (⟨(stB o.st).toArray⟩ : ByteArray) = b at *
        have hb : (b.size : Int) > 280 := by omega
        clear hz h3 h2 h1
        go_enter Try.func47, Try.ntmps47
        go_wp2_with (first
          | ((with_reducible refine wpList_box_ob (by rfl) (.tmp 0) (by rfl) (some 2) (by rfl) N (unhide HN) o.key v n m (by with_unfolding_all rfl) ?_); intro W1 HX1 HB1 HS1; simp only [Act.put, List.setIfInBounds_toArray, List.set_cons_zero, List.set_cons_succ])
          | ((with_reducible refine wpList_alloc_ob (by rfl) (by rfl) (some 4) (by rfl) (N + 1) (unhide HS1).symm ?_); intro W2 HX2 HB2 HS2; simp only [Act.put, List.setIfInBounds_toArray, List.set_cons_zero, List.set_cons_succ])
          | ((with_reducible refine wpList_alloc_ob (by rfl) (by rfl) (some 6) (by rfl) (N + 1 + 1) (unhide HS2).symm ?_); intro W3 HX3 HB3 HS3; simp only [Act.put, List.setIfInBounds_toArray, List.set_cons_zero, List.set_cons_succ]; have HBU : Hid (Below N u W3) := (unhide HB1).trans (((unhide HB2).mono (Nat.le_succ _)).trans ((unhide HB3).mono (by omega))); have HLO : Hid (Lo W3 N o v n m) := ⟨(unhide HO).below (unhide HU _ (unhide HBU)), ((unhide HB3).block N (by omega)).trans (((unhide HB2).block N (Nat.lt_succ_self _)).trans (unhide HX1))⟩; replace HX2 : Hid (W3.heap[N + 1]? = _) := ((unhide HB3).block (N + 1) (Nat.lt_succ_self _)).trans (unhide HX2); obtain ⟨c0, c1, c2⟩ := (unhide HLO).cells; obtain ⟨d0, d1, d2⟩ := ob_cells (unhide HX3); clear HX1 HB1 HB2 HB3)
          | (go_at_call 12; refine (oKey o.key _).mono ?_; rintro e W4 ⟨rfl, rfl⟩; rw [unhide HK])
          | (go_at_call 87; refine (kvEncode (unhide HE) (unhide HLO).toSx).mono ?_; rintro e W5 ⟨rfl, hb⟩; clear c0 c1 c2; clear d0 d1 d2; replace HX2 := hide (box_below (unhide HX2) hb); replace HX3 := hide (box_below (unhide HX3) hb); obtain ⟨d0, d1, d2⟩ := ob_cells (unhide HX3); replace HBU : Hid (Below N u W5) := (unhide HBU).trans (hb.mono (by rw [unhide HS3]; omega)); have HS5 : Hid (N + 1 + 1 + 1 ≤ W5.heap.size) := (by have := hb.size; rw [unhide HS3] at this; exact this); clear hb HLO)
          | ((with_reducible refine wpList_store_ob (by rfl) (.tmp 4) (.tmp 30) (by rfl) (N + 1) ⟨#[]⟩ Sv.none 0 0 (by with_unfolding_all rfl) (by with_unfolding_all rfl) _ _ _ _ (unhide HX2) ?_); intro W7 HX7 HE7; simp only [Act.put])
          | fail)
        refine bodyPost_ret (results_cell_tmp rfl _ _ (N + 1) 33 #[.string ⟨#[]⟩, .slice none 0 0, .slice none 0 0] (0, 0) _ rfl (unhide HX7) obUnd rfl obInfo) rfl ?_
        refine ⟨Sv.none, 0, 0, rfl, rfl, rfl, OwnT.none _ _, U1.below' (unhide HU _ (by rw [unhide HE7]; exact belowRow (unhide HBU) (by omega) _)), fun hz => absurd hz (unhide HCN)⟩
    · have HE := hide (encT_no h2)
      have hc : ckE o = 110 := by unfold ckE; rw [if_pos h1, encT_no h2]; rfl
      rw [hc] at hno
      have HCN : Hid (ckE o ≠ 0) := by show ckE o ≠ 0; rw [hc]; decide
      obtain ⟨rfl, rfl⟩ := hno (by decide)
      clear hgo hno hc h2 h1
      go_enter Try.func47, Try.ntmps47
      go_wp2_with (first
        | ((with_reducible refine wpList_box_ob (by rfl) (.tmp 0) (by rfl) (some 2) (by rfl) N (unhide HN) o.key v n m (by with_unfolding_all rfl) ?_); intro W1 HX1 HB1 HS1; simp only [Act.put, List.setIfInBounds_toArray, List.set_cons_zero, List.set_cons_succ])
        | ((with_reducible refine wpList_alloc_ob (by rfl) (by rfl) (some 4) (by rfl) (N + 1) (unhide HS1).symm ?_); intro W2 HX2 HB2 HS2; simp only [Act.put, List.setIfInBounds_toArray, List.set_cons_zero, List.set_cons_succ])
        | ((with_reducible refine wpList_alloc_ob (by rfl) (by rfl) (some 6) (by rfl) (N + 1 + 1) (unhide HS2).symm ?_); intro W3 HX3 HB3 HS3; simp only [Act.put, List.setIfInBounds_toArray, List.set_cons_zero, List.set_cons_succ]; have HBU : Hid (Below N u W3) := (unhide HB1).trans (((unhide HB2).mono (Nat.le_succ _)).trans ((unhide HB3).mono (by omega))); have HLO : Hid (Lo W3 N o v n m) := ⟨(unhide HO).below (unhide HU _ (unhide HBU)), ((unhide HB3).block N (by omega)).trans (((unhide HB2).block N (Nat.lt_succ_self _)).trans (unhide HX1))⟩; replace HX2 : Hid (W3.heap[N + 1]? = _) := ((unhide HB3).block (N + 1) (Nat.lt_succ_self _)).trans (unhide HX2); obtain ⟨c0, c1, c2⟩ := (unhide HLO).cells; obtain ⟨d0, d1, d2⟩ := ob_cells (unhide HX3); clear HX1 HB1 HB2 HB3)
        | (go_at_call 12; refine (oKey o.key _).mono ?_; rintro e W4 ⟨rfl, rfl⟩; rw [unhide HK])
        | (go_at_call 87; refine (kvEncode (unhide HE) (unhide HLO).toSx).mono ?_; rintro e W5 ⟨rfl, hb⟩; clear c0 c1 c2; clear d0 d1 d2; replace HX2 := hide (box_below (unhide HX2) hb); replace HX3 := hide (box_below (unhide HX3) hb); obtain ⟨d0, d1, d2⟩ := ob_cells (unhide HX3); replace HBU : Hid (Below N u W5) := (unhide HBU).trans (hb.mono (by rw [unhide HS3]; omega)); have HS5 : Hid (N + 1 + 1 + 1 ≤ W5.heap.size) := (by have := hb.size; rw [unhide HS3] at this; exact this); clear hb HLO)
        | ((with_reducible refine wpList_store_ob (by rfl) (.tmp 4) (.tmp 25) (by rfl) (N + 1) ⟨#[]⟩ Sv.none 0 0 (by with_unfolding_all rfl) (by with_unfolding_all rfl) _ _ _ _ (unhide HX2) ?_); intro W7 HX7 HE7; simp only [Act.put])
        | fail)
      refine bodyPost_ret (results_cell_tmp rfl _ _ (N + 1) 33 #[.string ⟨#[]⟩, .slice none 0 0, .slice none 0 0] (0, 0) _ rfl (unhide HX7) obUnd rfl obInfo) rfl ?_
      refine ⟨Sv.none, 0, 0, rfl, rfl, rfl, OwnT.none _ _, U1.below' (unhide HU _ (by rw [unhide HE7]; exact belowRow (unhide HBU) (by omega) _)), fun hz => absurd hz (unhide HCN)⟩
  · have hk : keyE o.key = 130 := by
      unfold keyE at h1 ⊢
      by_cases h : 1 ≤ o.key.size ∧ o.key.size ≤ 32
      · rw [if_pos h] at h1; exact absurd rfl h1
      · rw [if_neg h]
    have HK := hide hk
    have hc : ckE o = 130 := by unfold ckE; rw [if_neg h1, hk]
    rw [hc] at hno
    have HCN : Hid (ckE o ≠ 0) := by show ckE o ≠ 0; rw [hc]; decide
    obtain ⟨rfl, rfl⟩ := hno (by decide)
    clear hgo hno hc h1 hk
    go_enter Try.func47, Try.ntmps47
    go_wp2_with (first
      | ((with_reducible refine wpList_box_ob (by rfl) (.tmp 0) (by rfl) (some 2) (by rfl) N (unhide HN) o.key v n m (by with_unfolding_all rfl) ?_); intro W1 HX1 HB1 HS1; simp only [Act.put, List.setIfInBounds_toArray, List.set_cons_zero, List.set_cons_succ])
      | ((with_reducible refine wpList_alloc_ob (by rfl) (by rfl) (some 4) (by rfl) (N + 1) (unhide HS1).symm ?_); intro W2 HX2 HB2 HS2; simp only [Act.put, List.setIfInBounds_toArray, List.set_cons_zero, List.set_cons_succ])
      | ((with_reducible refine wpList_alloc_ob (by rfl) (by rfl) (some 6) (by rfl) (N + 1 + 1) (unhide HS2).symm ?_); intro W3 HX3 HB3 HS3; simp only [Act.put, List.setIfInBounds_toArray, List.set_cons_zero, List.set_cons_succ]; have HBU : Hid (Below N u W3) := (unhide HB1).trans (((unhide HB2).mono (Nat.le_succ _)).trans ((unhide HB3).mono (by omega))); have HLO : Hid (Lo W3 N o v n m) := ⟨(unhide HO).below (unhide HU _ (unhide HBU)), ((unhide HB3).block N (by omega)).trans (((unhide HB2).block N (Nat.lt_succ_self _)).trans (unhide HX1))⟩; replace HX2 : Hid (W3.heap[N + 1]? = _) := ((unhide HB3).block (N + 1) (Nat.lt_succ_self _)).trans (unhide HX2); obtain ⟨c0, c1, c2⟩ := (unhide HLO).cells; obtain ⟨d0, d1, d2⟩ := ob_cells (unhide HX3); clear HX1 HB1 HB2 HB3)
      | (go_at_call 12; refine (oKey o.key _).mono ?_; rintro e W4 ⟨rfl, rfl⟩; rw [unhide HK])
      | ((with_reducible refine wpList_store_ob (by rfl) (.tmp 4) (.tmp 15) (by rfl) (N + 1) ⟨#[]⟩ Sv.none 0 0 (by with_unfolding_all rfl) (by with_unfolding_all rfl) _ _ _ _ (unhide HX2) ?_); intro W7 HX7 HE7; simp only [Act.put])
      | fail)
    refine bodyPost_ret (results_cell_tmp rfl _ _ (N + 1) 33 #[.string ⟨#[]⟩, .slice none 0 0, .slice none 0 0] (0, 0) _ rfl (unhide HX7) obUnd rfl obInfo) rfl ?_
    refine ⟨Sv.none, 0, 0, rfl, rfl, rfl, OwnT.none _ _, U1.below' (unhide HU _ (by rw [unhide HE7]; exact belowRow (unhide HBU) (by omega) _)), fun hz => absurd hz (unhide HCN)⟩
theorem put_fs {s : St} {ctx : List (Nat × Nat)} {x : Nat} {val : ByteArray} (gone : Bool) (hf : FitT s) (hc : Fits ctx) (hx : x < 4294967296) (hv : val.size ≤ 140737488355328) : SOk (putV s ctx x val gone).1 ∧ FitT (putV s ctx x val gone).1 := by
  rcases put_cases s ctx x val gone with ⟨r, -, h⟩ | ⟨-, -, X, h1, h2, h3, h4, h5, h6⟩
  · rw [h]; exact ⟨none_ok, fit_none⟩
  · rw [h6]; exact ⟨h5.ok, fit_put hf hc ⟨by rw [h1]; exact hx, Nat.lt_of_le_of_lt h4 (by decide), by rw [h3]; exact hv⟩⟩
def dotRow (d : Nat × Nat) : Obj := .cells #[.int .u32 (d.1 : Int), .int .u64 (d.2 : Int)] 53 (0, 0)
/-- the variables that the closure of Put has beside the object -/
structure Pv (W : World) (gc ga gv gg : Nat) (ao : Option Addr) (nc c x : Nat) (val : ByteArray) (gone : Bool) : Prop where
  ctx : W.heap[gc]? = some (.cells #[.slice ao nc c] 28 (0, 0))
  act : W.heap[ga]? = some (.cells #[.int .u32 (x : Int)] 46 (0, 0))
  val : W.heap[gv]? = some (.cells #[.string val] 9 (0, 0))
  gone : W.heap[gg]? = some (.cells #[.bool gone] 4 (0, 0))
theorem Pv.below {W W' : World} {gc ga gv gg : Nat} {ao : Option Addr} {nc c x : Nat} {val : ByteArray} {gone : Bool} (h : Pv W gc ga gv gg ao nc c x val gone) (hb : Below W.heap.size W W') : Pv W' gc ga gv gg ao nc c x val gone :=
  ⟨box_below h.ctx hb, box_below h.act hb, box_below h.val hb, box_below h.gone hb⟩
theorem Pv.cells {W : World} {gc ga gv gg : Nat} {ao : Option Addr} {nc c x : Nat} {val : ByteArray} {gone : Bool} (h : Pv W gc ga gv gg ao nc c x val gone) : W.cell? ⟨gc, 0, none⟩ = some (.slice ao nc c) ∧ W.cell? ⟨ga, 0, none⟩ = some (.int .u32 (x : Int)) ∧ W.cell? ⟨gv, 0, none⟩ = some (.string val) ∧ W.cell? ⟨gg, 0, none⟩ = some (.bool gone) :=
  ⟨cell_one h.ctx, cell_one h.act, cell_one h.val, cell_one h.gone⟩
set_option maxRecDepth 100000 in
set_option maxHeartbeats 2000000 in
theorem oPut1 {u : World} {go gc ga gv gg gd : Nat} {o : Ot} {v : Sv} {n m : Nat} {ctx : List (Nat × Nat)} {ao : Option Addr} {nc c x : Nat} {val : ByteArray} {gone : Bool} {d0 : Nat × Nat} (ho : Lo u go o v n m) (hp : Pv u gc ga gv gg ao nc c x val gone) (hda : Da u ctx ao c) (ec : nc = ctx.length) (hx : x < 4294967296) (hv : val.size ≤ 140737488355328) (hd0 : u.heap[gd]? = some (dotRow d0)) (hgd : gd < u.heap.size) (hne : go ≠ gd)
    (t : ByteArray) (S : St) (d : Nat × Nat) (re : Int) (hS : putV o.st ctx x val gone = (S, d, re)) (J : Ot) (r : Int) (hJ : madeV o.key S re = (J, r)) :
    Calls Try.prog 53 (#[.string t] ++ #[.pointer (some ⟨go, 0, none⟩), .pointer (some ⟨gc, 0, none⟩), .pointer (some ⟨ga, 0, none⟩), .pointer (some ⟨gv, 0, none⟩), .pointer (some ⟨gg, 0, none⟩), .pointer (some ⟨gd, 0, none⟩)]) u fun y u' => ∃ z, y = .returned z ∧ ∃ x k l, z = .tuple #[obV J.key x k l, .int .i64 r] ∧ k = J.st.seen.length ∧ l = J.st.sibs.length ∧ OwnT u' u.heap.size J.st x ∧ U1 u u' gd ∧ u'.heap[gd]? = some (dotRow d) := by
  obtain ⟨N, hN⟩ : ∃ N, N = u.heap.size := ⟨_, rfl⟩
  have HN := hide hN
  have HU : Hid (∀ W : World, Below N u W → Below u.heap.size u W) := fun W hW => by rw [← unhide HN]; exact hW
  have HLO := hide ho
  have HPV := hide hp
  have HD0 := hide hd0
  rw [← hN] at hgd
  have HGD := hide hgd
  have HNE := hide hne
  have HFS : Hid (SOk S ∧ FitT S) := by
    have h1 := put_fs gone ho.toSx.sat.fit hda.fits hx hv
    rw [hS] at h1
    exact h1
  have HPT : Hid (∀ W, Below N u W → Calls Try.prog 54 #[v.v n m, .slice ao nc c, .int .u32 (x : Int), .string val, .bool gone] W fun e u' => ∃ y k l, e = .returned (.tuple #[Sv.v y k l, .agg #[.int .u32 (d.1 : Int), .int .u64 (d.2 : Int)], .int .i64 re]) ∧ k = S.seen.length ∧ l = S.sibs.length ∧ OwnT u' W.heap.size S y ∧ Below W.heap.size W u') := fun W hW => by
    rw [ho.toSx.en, ho.toSx.em]
    exact dPut o.st v ctx ao c nc ec x hx val hv gone W (ho.toSx.sat.below (unhide HU _ hW)) (hda.below (unhide HU _ hW)) S d re hS
  have HMJ := hide hJ
  rw [← hN]
  clear hN ho hp hda ec hx hv hd0 hgd hne hS hJ
  show Calls Try.prog 53 #[.string t, .pointer (some ⟨go, 0, none⟩), .pointer (some ⟨gc, 0, none⟩), .pointer (some ⟨ga, 0, none⟩), .pointer (some ⟨gv, 0, none⟩), .pointer (some ⟨gg, 0, none⟩), .pointer (some ⟨gd, 0, none⟩)] u _
  go_enter Try.func53, Try.ntmps53
  go_wp2_with (first
    | ((with_reducible refine wpList_alloc_ob (by rfl) (by rfl) (some 8) (by rfl) N (unhide HN) ?_); intro W1 HX1 HB1 HS1; simp only [Act.put, List.setIfInBounds_toArray, List.set_cons_zero, List.set_cons_succ]; obtain ⟨c0, c1, c2⟩ := ((unhide HLO).below (unhide HU _ (unhide HB1))).cells; obtain ⟨p0, p1, p2, p3⟩ := ((unhide HPV).below (unhide HU _ (unhide HB1))).cells)
    | (go_at_call 54; refine (unhide HPT W1 (unhide HB1)).mono ?_; rintro e W2 ⟨x1, k1, l1, rfl, h1, h2, h3, h4⟩; clear c0 c1 c2 p0 p1 p2 p3; have HK1 := hide h1; have HK2 := hide h2; have HOJ := hide h3; replace HX1 := hide (box_below (unhide HX1) h4); have HBU : Hid (Below N u W2) := (unhide HB1).trans (h4.mono (by rw [unhide HS1]; omega)); have HS2 : Hid (N + 1 ≤ W2.heap.size) := (by have := h4.size; rw [unhide HS1] at this; exact this); clear h1 h2 h3 h4; obtain ⟨M1, hM1⟩ : ∃ M1, M1 = W2.heap.size := ⟨_, rfl⟩; have HM1 := hide hM1; clear hM1)
    | ((with_reducible refine wpList_alloc_state (by rfl) (by rfl) (some 10) (by rfl) M1 (unhide HM1) ?_); intro W3 HX3 HB3 HS3; simp only [Act.put, List.setIfInBounds_toArray, List.set_cons_zero, List.set_cons_succ])
    | ((with_reducible refine wpList_alloc_dot (by rfl) (by rfl) (some 11) (by rfl) (M1 + 1) (unhide HS3).symm ?_); intro W4 HX4 HB4 HS4; simp only [Act.put, List.setIfInBounds_toArray, List.set_cons_zero, List.set_cons_succ]; replace HX3 := hide (((unhide HB4).block M1 (Nat.lt_succ_self _)).trans (unhide HX3)); replace HB3 : Hid (Below M1 W2 W4) := (unhide HB3).trans ((unhide HB4).mono (Nat.le_succ _)); clear HB4)
    | ((with_reducible refine wpList_store_state (by rfl) (.tmp 10) (.tmp 21) (by rfl) M1 x1 k1 l1 (by with_unfolding_all rfl) (by with_unfolding_all rfl) Sv.none 0 0 (unhide HX3) ?_); intro W5 HX5 HE5; simp only [Act.put]; replace HX4 : Hid (W5.heap[M1 + 1]? = _) := (by rw [unhide HE5]; exact (heapRow_other _ _ _ _ (by omega)).trans (unhide HX4)); replace HB3 : Hid (Below M1 W2 W5) := (by rw [unhide HE5]; exact belowRow (unhide HB3) (Nat.le_refl _) _); clear HE5 HX3)
    | ((with_reducible refine wpList_store_dot (by rfl) (.tmp 11) (.tmp 22) (by rfl) (M1 + 1) (d.1 : Int) (d.2 : Int) (by with_unfolding_all rfl) (by with_unfolding_all rfl) (unhide HX4) ?_); intro W6 HX6 HE6; simp only [Act.put]; replace HX5 : Hid (W6.heap[M1]? = some (stRow x1 k1 l1)) := (by rw [unhide HE6]; exact (heapRow_other _ _ _ _ (by omega)).trans (unhide HX5)); replace HB3 : Hid (Below M1 W2 W6) := (by rw [unhide HE6]; exact belowRow (unhide HB3) (by omega) _); have hb : Below W2.heap.size W2 W6 := (by rw [← unhide HM1]; exact unhide HB3); replace HX1 := hide (box_below (unhide HX1) hb); replace HOJ := hide ((unhide HOJ).below hb); replace HBU : Hid (Below N u W6) := (unhide HBU).trans (hb.mono (by have := unhide HS2; omega)); replace HS2 : Hid (N + 1 ≤ W6.heap.size ∧ N + 1 ≤ M1) := ⟨Nat.le_trans (unhide HS2) hb.size, by rw [unhide HM1]; exact unhide HS2⟩; clear hb HX4 HE6 HB3 HS3 HS4; obtain ⟨e0, e1⟩ := box2 (unhide HX6))
    | ((with_reducible refine wpList_store_dot (by rfl) (.tmp 6) (.tmp 24) (by rfl) gd (d.1 : Int) (d.2 : Int) (by with_unfolding_all rfl) (by with_unfolding_all rfl) (box_below (unhide HD0) (unhide HU _ (unhide HBU))) ?_); intro W7 HDD HE7; simp only [Act.put]; have HUU : Hid (U1 u W7 gd) := (by rw [unhide HE7]; exact (U1.below' (unhide HU _ (unhide HBU))).row' _); replace HX1 : Hid (W7.heap[N]? = _) := (by rw [unhide HE7]; exact (heapRow_other _ _ _ _ (by have := unhide HGD; omega)).trans (unhide HX1)); replace HX5 : Hid (W7.heap[M1]? = some (stRow x1 k1 l1)) := (by rw [unhide HE7]; exact (heapRow_other _ _ _ _ (by have := unhide HGD; have := (unhide HS2).2; omega)).trans (unhide HX5)); replace HOJ : Hid (OwnT W7 W1.heap.size S x1) := (by rw [unhide HE7]; exact (unhide HOJ).keep fun g hg => heapRow_other _ _ _ _ (by have h1 := ((unhide HOJ).lt hg).1; have h2 := unhide HS1; have h3 := unhide HGD; omega)); have hro : W7.heap[go]? = some (obRow o.key v n m) := (by rw [unhide HE7]; exact (heapRow_other _ _ _ _ (unhide HNE)).trans ((unhide HLO).below (unhide HU _ (unhide HBU))).box); replace HS2 : Hid (N + 1 ≤ W7.heap.size) := (by rw [unhide HE7, size_setRow]; exact (unhide HS2).1); obtain ⟨c0, c1, c2⟩ := ob_cells hro; clear hro HE7 HBU e0 e1; obtain ⟨e0, e1⟩ := st_cells (unhide HX5))
    | (go_at_call 51; refine (oMade o.key S x1 k1 l1 re W7 W1.heap.size (unhide HK1) (unhide HK2) (unhide HOJ) (unhide HFS).2 (fun _ => (unhide HFS).1) J r (unhide HMJ)).mono ?_; rintro e W8 ⟨x2, k2, l2, rfl, h1, h2, h3, h4⟩; have HE1 := hide h1; have HE2 := hide h2; have HO5 := hide h3; replace HX1 := hide (box_below (unhide HX1) h4); replace HDD := hide (box_below (unhide HDD) h4); replace HUU : Hid (U1 u W8 gd) := (unhide HUU).trans (U1.below' h4); clear h1 h2 h3 h4 c0 c1 c2 e0 e1; simp only [obV])
    | ((with_reducible refine wpList_store_ob (by rfl) (.tmp 8) (.tmp 30) (by rfl) N J.key x2 k2 l2 (by with_unfolding_all rfl) (by with_unfolding_all rfl) _ _ _ _ (unhide HX1) ?_); intro W9 HXE HEE; simp only [Act.put])
    | fail)
  refine bodyPost_ret (results_cell_tmp rfl _ _ N 33 #[.string J.key, .slice x2.sa k2 x2.sc, .slice x2.ba l2 x2.bc] (0, 0) _ rfl (unhide HXE) obUnd rfl obInfo) rfl ?_
  refine ⟨_, rfl, x2, k2, l2, rfl, unhide HE1, unhide HE2, ?_, by rw [unhide HEE]; exact (unhide HUU).row (by rw [← unhide HN]; exact Nat.le_refl _) _, by rw [unhide HEE]; exact (heapRow_other _ _ _ _ (by have := unhide HGD; omega)).trans (unhide HDD)⟩
  rw [unhide HEE]
  refine ((unhide HO5).down (by have := unhide HS1; omega)).keep fun g hg => heapRow_other _ _ _ _ ?_
  have h1 := ((unhide HO5).lt hg).1
  have h2 := unhide HS1
  omega
theorem putOV_no {o : Ot} {ctx : List (Nat × Nat)} {x : Nat} {val : ByteArray} {gone : Bool} (h : ckE o ≠ 0) : putOV o ctx x val gone = (Ot.none, (0, 0), ckE o) := by unfold putOV; rw [if_neg h]
theorem putOV_ok {o : Ot} {ctx : List (Nat × Nat)} {x : Nat} {val : ByteArray} {gone : Bool} {S : St} {d : Nat × Nat} {re : Int} {J : Ot} {r : Int} (h : ckE o = 0) (hS : putV o.st ctx x val gone = (S, d, re)) (hJ : madeV o.key S re = (J, r)) : putOV o ctx x val gone = if r = 0 then (J, d, 0) else (Ot.none, (0, 0), r) := by
  unfold putOV
  rw [if_pos h, hS]
  simp only
  rw [hJ]
set_option maxRecDepth 100000 in
set_option maxHeartbeats 4000000 in
theorem oPut {u : World} {o : Ot} {v : Sv} {n m : Nat} {ctx : List (Nat × Nat)} {ao : Option Addr} {nc c x : Nat} {val : ByteArray} {gone : Bool} (ho : Sx u o.st v n m) (hda : Da u ctx ao c) (ec : nc = ctx.length) (hx : x < 4294967296) (hv : val.size ≤ 140737488355328)
    (J : Ot) (d : Nat × Nat) (r : Int) (hJ : putOV o ctx x val gone = (J, d, r)) :
    Calls Try.prog 25 #[obV o.key v n m, .slice ao nc c, .int .u32 (x : Int), .string val, .bool gone] u fun y u' => ∃ x k l, y = .returned (.tuple #[obV J.key x k l, .agg #[.int .u32 (d.1 : Int), .int .u64 (d.2 : Int)], .int .i64 r]) ∧ k = J.st.seen.length ∧ l = J.st.sibs.length ∧ OwnT u' u.heap.size J.st x ∧ Below u.heap.size u u' := by
  have hmix : Try.prog.follows .mixedOrders = true := by kernel_rfl
  obtain ⟨N, hN⟩ : ∃ N, N = u.heap.size := ⟨_, rfl⟩
  have HN := hide hN
  have HU : Hid (∀ W : World, Below N u W → Below u.heap.size u W) := fun W hW => by rw [← unhide HN]; exact hW
  obtain ⟨J0, od, hM0, hdz, hnz, hok⟩ : ∃ (J0 : Ot) (od : Obj), (∀ W, Below N u W → W.heap[N]? = some (obRow o.key v n m) → Pv W (N + 1) (N + 1 + 1) (N + 1 + 1 + 1) (N + 1 + 1 + 1 + 1) ao nc c x val gone → W.heap[N + 7]? = some (dotRow (0, 0)) → N + 8 ≤ W.heap.size → Calls Try.prog 47 #[obV o.key v n m, .func (.func 53) #[] #[.pointer (some ⟨N, 0, none⟩), .pointer (some ⟨N + 1, 0, none⟩), .pointer (some ⟨N + 1 + 1, 0, none⟩), .pointer (some ⟨N + 1 + 1 + 1, 0, none⟩), .pointer (some ⟨N + 1 + 1 + 1 + 1, 0, none⟩), .pointer (some ⟨N + 7, 0, none⟩)]] W fun e u' => ∃ x k l, e = .returned (.tuple #[obV J0.key x k l, .int .i64 r]) ∧ k = J0.st.seen.length ∧ l = J0.st.sibs.length ∧ OwnT u' W.heap.size J0.st x ∧ U1 W u' (N + 7) ∧ (r = 0 → u'.heap[N + 7]? = some od)) ∧ (r = 0 → od = dotRow d ∧ J0 = J) ∧ (r ≠ 0 → J = Ot.none ∧ d = (0, 0)) ∧ True := by
    by_cases hc : ckE o = 0
    · obtain ⟨⟨S, d1, re⟩, hS⟩ : ∃ p, putV o.st ctx x val gone = p := ⟨_, rfl⟩
      obtain ⟨⟨J1, r1⟩, hJ1⟩ : ∃ p, madeV o.key S re = p := ⟨_, rfl⟩
      rw [putOV_ok hc hS hJ1] at hJ
      have hr : r1 = r := by
        by_cases h : r1 = 0
        · rw [if_pos h] at hJ; obtain ⟨-, h2⟩ := Prod.mk.inj hJ; obtain ⟨-, h3⟩ := Prod.mk.inj h2; rw [h, h3]
        · rw [if_neg h] at hJ; obtain ⟨-, h2⟩ := Prod.mk.inj hJ; obtain ⟨-, h3⟩ := Prod.mk.inj h2; exact h3
      subst hr
      refine ⟨J1, dotRow d1, fun W hW hR hP hD hs => ?_, fun h => ?_, fun h => ?_, trivial⟩
      · have hbu := unhide HU _ hW
        refine (oMayP (ho.below hbu) _ _ (ent_lit _ (by kernel_rfl)) J1 r1 W.heap.size (N + 7) (by omega) (dotRow d1) (fun _ V hV => ?_) (fun hn => absurd hc hn)).mono ?_
        · refine (oPut1 (go := N) (v := v) (n := n) (m := m) ⟨(ho.below hbu).below hV, box_below hR hV⟩ (hP.below hV) ((hda.below hbu).below hV) ec hx hv (box_below hD hV) (by have := hV.size; omega) (by omega) _ S d1 re hS J1 _ hJ1).mono ?_
          rintro e V' ⟨z, h1, y, k, l, h2, h3, h4, h5, h6, h7⟩
          exact ⟨z, h1, y, k, l, h2, h3, h4, h5.down hV.size, h6, fun g hg => by rw [h3, h4] at hg; exact .inr (h5.lt hg).1, h7⟩
        · rintro e V' ⟨y, k, l, h1, h2, h3, h4, h5, h6⟩
          exact ⟨y, k, l, h1, h2, h3, h4, h5, fun _ => h6 hc⟩
      · rw [if_pos h] at hJ
        cases hJ
        exact ⟨rfl, rfl⟩
      · rw [if_neg h] at hJ
        cases hJ
        exact ⟨rfl, rfl⟩
    · rw [putOV_no hc] at hJ
      cases hJ
      refine ⟨Ot.none, dotRow (0, 0), fun W hW hR hP hD hs => ?_, fun h => absurd h hc, fun _ => ⟨rfl, rfl⟩, trivial⟩
      have hbu := unhide HU _ hW
      refine (oMayP (ho.below hbu) _ _ (ent_lit _ (by kernel_rfl)) Ot.none (ckE o) W.heap.size (N + 7) (by omega) (dotRow (0, 0)) (fun hn => absurd hn hc) (fun _ => ⟨rfl, rfl⟩)).mono ?_
      rintro e V' ⟨y, k, l, h1, h2, h3, h4, h5, h6⟩
      exact ⟨y, k, l, h1, h2, h3, h4, h5, fun h => absurd h hc⟩
  clear hok
  have HM := hide hM0
  clear hM0
  rw [← hN]
  clear hN ho hda ec hx hv hJ
  by_cases hr : r = 0
  · obtain ⟨rfl, rfl⟩ := hdz hr
    subst hr
    clear hdz hnz
    go_enter Try.func25, Try.ntmps25
    go_upto_region 5 with (first
      | ((with_reducible refine wpList_box_ob (by rfl) (.tmp 0) (by rfl) (some 5) (by rfl) N (unhide HN) o.key v n m (by with_unfolding_all rfl) ?_); intro W1 HX1 HB1 HS1; simp only [Act.put, List.setIfInBounds_toArray, List.set_cons_zero, List.set_cons_succ])
      | ((with_reducible refine wpList_box_row (by rfl) _ (.tmp 1) (by rfl) (some 6) (by rfl) (N + 1) (unhide HS1) _ (by with_unfolding_all rfl) ?_); intro W2 HX2 HB2 HS2; simp only [Act.put, List.setIfInBounds_toArray, List.set_cons_zero, List.set_cons_succ])
      | ((with_reducible refine wpList_box_row (by rfl) _ (.tmp 2) (by rfl) (some 7) (by rfl) (N + 1 + 1) (unhide HS2) _ (by with_unfolding_all rfl) ?_); intro W3 HX3 HB3 HS3; simp only [Act.put, List.setIfInBounds_toArray, List.set_cons_zero, List.set_cons_succ])
      | ((with_reducible refine wpList_box_row (by rfl) _ (.tmp 3) (by rfl) (some 8) (by rfl) (N + 1 + 1 + 1) (unhide HS3) _ (by with_unfolding_all rfl) ?_); intro W4 HX4 HB4 HS4; simp only [Act.put, List.setIfInBounds_toArray, List.set_cons_zero, List.set_cons_succ])
      | ((with_reducible refine wpList_box_row (by rfl) _ (.tmp 4) (by rfl) (some 9) (by rfl) (N + 1 + 1 + 1 + 1) (unhide HS4) _ (by with_unfolding_all rfl) ?_); intro W5 HX5 HB5 HS5; simp only [Act.put, List.setIfInBounds_toArray, List.set_cons_zero, List.set_cons_succ])
      | ((with_reducible refine wpList_alloc_ob (by rfl) (by rfl) (some 10) (by rfl) (N + 1 + 1 + 1 + 1 + 1) (unhide HS5).symm ?_); intro W6 HX6 HB6 HS6; simp only [Act.put, List.setIfInBounds_toArray, List.set_cons_zero, List.set_cons_succ])
      | ((with_reducible refine wpList_alloc_dot (by rfl) (by rfl) (some 11) (by rfl) (N + 1 + 1 + 1 + 1 + 1 + 1) (unhide HS6).symm ?_); intro W7 HX7 HB7 HS7; simp only [Act.put, List.setIfInBounds_toArray, List.set_cons_zero, List.set_cons_succ])
      | ((with_reducible refine wpList_alloc_dot (by rfl) (by rfl) (some 13) (by rfl) (N + 1 + 1 + 1 + 1 + 1 + 1 + 1) (unhide HS7).symm ?_); intro W8 HX8 HB8 HS8; simp only [Act.put, List.setIfInBounds_toArray, List.set_cons_zero, List.set_cons_succ]; have HBU : Hid (Below N u W8) := (((((((unhide HB1).trans ((unhide HB2).mono (by omega))).trans ((unhide HB3).mono (by omega))).trans ((unhide HB4).mono (by omega))).trans ((unhide HB5).mono (by omega))).trans ((unhide HB6).mono (by omega))).trans ((unhide HB7).mono (by omega))).trans ((unhide HB8).mono (by omega)); have HPV : Hid (Pv W8 (N + 1) (N + 1 + 1) (N + 1 + 1 + 1) (N + 1 + 1 + 1 + 1) ao nc c x val gone) := ⟨((unhide HB8).block (N + 1) (by omega)).trans (((unhide HB7).block (N + 1) (by omega)).trans (((unhide HB6).block (N + 1) (by omega)).trans (((unhide HB5).block (N + 1) (by omega)).trans (((unhide HB4).block (N + 1) (by omega)).trans (((unhide HB3).block (N + 1) (by omega)).trans (unhide HX2)))))), ((unhide HB8).block (N + 1 + 1) (by omega)).trans (((unhide HB7).block (N + 1 + 1) (by omega)).trans (((unhide HB6).block (N + 1 + 1) (by omega)).trans (((unhide HB5).block (N + 1 + 1) (by omega)).trans (((unhide HB4).block (N + 1 + 1) (by omega)).trans (unhide HX3))))), ((unhide HB8).block (N + 1 + 1 + 1) (by omega)).trans (((unhide HB7).block (N + 1 + 1 + 1) (by omega)).trans (((unhide HB6).block (N + 1 + 1 + 1) (by omega)).trans (((unhide HB5).block (N + 1 + 1 + 1) (by omega)).trans (unhide HX4)))), ((unhide HB8).block (N + 1 + 1 + 1 + 1) (by omega)).trans (((unhide HB7).block (N + 1 + 1 + 1 + 1) (by omega)).trans (((unhide HB6).block (N + 1 + 1 + 1 + 1) (by omega)).trans (unhide HX5)))⟩; replace HX6 : Hid (W8.heap[N + 5]? = some (obRow ⟨#[]⟩ Sv.none 0 0)) := ((unhide HB8).block (N + 1 + 1 + 1 + 1 + 1) (by omega)).trans (((unhide HB7).block (N + 1 + 1 + 1 + 1 + 1) (by omega)).trans (unhide HX6)); replace HX7 : Hid (W8.heap[N + 6]? = some (dotRow (0, 0))) := ((unhide HB8).block (N + 1 + 1 + 1 + 1 + 1 + 1) (by omega)).trans (unhide HX7); replace HX8 : Hid (W8.heap[N + 7]? = some (dotRow (0, 0))) := unhide HX8; replace HX1 : Hid (W8.heap[N]? = some (obRow o.key v n m)) := ((unhide HB8).block (N) (by omega)).trans (((unhide HB7).block (N) (by omega)).trans (((unhide HB6).block (N) (by omega)).trans (((unhide HB5).block (N) (by omega)).trans (((unhide HB4).block (N) (by omega)).trans (((unhide HB3).block (N) (by omega)).trans (((unhide HB2).block (N) (by omega)).trans (unhide HX1))))))); replace HS8 : Hid (W8.heap.size = N + 8) := unhide HS8; clear HX2 HX3 HX4 HX5 HB1 HB2 HB3 HB4 HB5 HB6 HB7 HB8 HS1 HS2 HS3 HS4 HS5 HS6 HS7; obtain ⟨c0, c1, c2⟩ := ob_cells (unhide HX1))
      | (go_at_call 47; refine (unhide HM W8 (unhide HBU) (unhide HX1) (unhide HPV) (unhide HX8) (Nat.le_of_eq (unhide HS8).symm)).mono ?_; rintro e W9 ⟨x2, k2, l2, rfl, h1, h2, h3, h4, h5⟩; clear c0 c1 c2; have HE1 := hide h1; have HE2 := hide h2; have HO5 := hide h3; have HDO := hide h5; replace HX6 := hide ((h4.block (N + 5) (by rw [unhide HS8]; omega) (by omega)).trans (unhide HX6)); replace HX7 := hide ((h4.block (N + 6) (by rw [unhide HS8]; omega) (by omega)).trans (unhide HX7)); replace HBU : Hid (Below N u W9) := (unhide HBU).trans (h4.toBelow (by rw [unhide HS8]; omega) (by omega)); have HS9 : Hid (N + 8 ≤ W9.heap.size) := (by have := h4.size; rw [unhide HS8] at this; exact this); clear h1 h2 h3 h4 h5; simp only [obV]; obtain ⟨K1, hK1⟩ : ∃ K1, K1 = W9.heap.size := ⟨_, rfl⟩; have HK1 := hide hK1; clear hK1)
      | ((with_reducible refine wpList_alloc_ob (by rfl) (by rfl) (some 14) (by rfl) K1 (unhide HK1) ?_); intro X1 HY1 HB1 HS1; simp only [Act.put, List.setIfInBounds_toArray, List.set_cons_zero, List.set_cons_succ])
      | ((with_reducible refine wpList_store_ob (by rfl) (.tmp 14) (.tmp 20) (by rfl) K1 J0.key x2 k2 l2 (by with_unfolding_all rfl) (by with_unfolding_all rfl) _ _ _ _ (unhide HY1) ?_); intro X2 HY2 HE2b; simp only [Act.put]; have hb : Below W9.heap.size W9 X2 := (by rw [unhide HE2b, ← unhide HK1]; exact belowRow (unhide HB1) (Nat.le_refl _) _); replace HX6 := hide (box_below (unhide HX6) hb); replace HX7 := hide (box_below (unhide HX7) hb); replace HO5 := hide ((unhide HO5).below hb); replace HDO : Hid (_ → X2.heap[N + 7]? = some _) := (fun hz => box_below (unhide HDO hz) hb); replace HBU : Hid (Below N u X2) := (unhide HBU).trans (hb.mono (by have := unhide HS9; omega)); have HK8 : Hid (N + 8 ≤ K1) := (by rw [unhide HK1]; exact unhide HS9); clear hb HY1 HB1 HS1 HE2b HK1 HS9)
      | fail)
    go_wp2_with fail
    refine wp_region_last (fun V => V.heap[K1]? = some (obRow J0.key x2 k2 l2) ∧ V.heap[N + 7]? = some (dotRow d)) 4 hmix ⟨unhide HY2, by first | exact unhide HDO rfl | exact unhide HDO trivial⟩ fun hS => ?_
    replace HX6 : Hid (X2.drew.heap[N + 5]? = some (obRow ⟨#[]⟩ Sv.none 0 0)) := unhide HX6
    replace HX7 : Hid (X2.drew.heap[N + 6]? = some (dotRow (0, 0))) := unhide HX7
    replace HBU : Hid (Below N u X2.drew) := belowDrew (unhide HBU)
    replace HO5 : Hid (OwnT X2.drew W8.heap.size J0.st x2) := (unhide HO5).below (belowDrew (Below.refl _ _))
    clear HY2 HDO
    generalize X2.drew = Z0 at hS HX6 HX7 HBU HO5 ⊢
    refine wpAnyL_take 0 27 (obV J0.key x2 k2 l2) [] rfl rfl (by kernel_rfl) (by kernel_rfl) (by kernel_rfl) (by kernel_rfl) (by kernel_rfl) (fun _ _ _ h => h) (by rfl) (fun V hV => by obtain ⟨c0, c1, c2⟩ := ob_cells hV.1; simp only [obV]; go_simp) hS ?_
    simp only [Act.put, List.setIfInBounds_toArray, List.set_cons_zero, List.set_cons_succ]
    refine wpAnyL_take 1 28 (.agg #[.int .u32 (d.1 : Int), .int .u64 (d.2 : Int)]) [] rfl rfl (by kernel_rfl) (by kernel_rfl) (by kernel_rfl) (by kernel_rfl) (by kernel_rfl) (fun _ _ _ h => h) (by rfl) (fun V hV => by obtain ⟨c0, c1⟩ := box2 hV.2; go_simp) hS ?_
    simp only [Act.put, List.setIfInBounds_toArray, List.set_cons_zero, List.set_cons_succ]
    refine wpAnyL_one (i := 2) (by kernel_rfl) rfl (by rfl) fun K hK => ?_
    refine wp_store_ob (.tmp 10) (.tmp 27) (by rfl) (by rfl) (N + 5) J0.key x2 k2 l2 (by with_unfolding_all rfl) (by with_unfolding_all rfl) _ _ _ _ (unhide HX6) ?_
    obtain ⟨Z1, hZ1⟩ : ∃ Z, Z = Z0.setRow (N + 5) #[.string J0.key, .slice x2.sa k2 x2.sc, .slice x2.ba l2 x2.bc] := ⟨_, rfl⟩
    have HR2 : Hid (Z1.heap[N + 5]? = some (obRow J0.key x2 k2 l2)) := by rw [hZ1]; exact heapRow_same (unhide HX6) _
    replace HX7 : Hid (Z1.heap[N + 6]? = some (dotRow (0, 0))) := by rw [hZ1]; exact (heapRow_other _ _ _ _ (by omega)).trans (unhide HX7)
    have HS1 : Hid (Z1.heap[K1]? = some (obRow J0.key x2 k2 l2) ∧ Z1.heap[N + 7]? = some (dotRow d)) := by rw [hZ1]; exact ⟨(heapRow_other _ _ _ _ (by have := unhide HK8; omega)).trans hS.1, (heapRow_other _ _ _ _ (by omega)).trans hS.2⟩
    replace HBU : Hid (Below N u Z1) := by rw [hZ1]; exact belowRow (unhide HBU) (by omega) _
    replace HO5 : Hid (OwnT Z1 W8.heap.size J0.st x2) := by rw [hZ1]; exact (unhide HO5).keep fun g hg => heapRow_other _ _ _ _ (by have h1 := ((unhide HO5).lt hg).1; have h2 := unhide HS8; omega)
    rw [← hZ1]
    clear hZ1
    refine hK _ _ (fun _ => unhide HS1) ?_
    clear hK K
    refine wpAnyL_one (i := 3) (by kernel_rfl) rfl (by rfl) fun K hK => ?_
    refine wp_store_dotrow (.tmp 11) (.tmp 28) (by rfl) (by rfl) (N + 6) (d.1 : Int) (d.2 : Int) (by with_unfolding_all rfl) (by with_unfolding_all rfl) (unhide HX7) ?_
    obtain ⟨Z2, hZ2⟩ : ∃ Z, Z = Z1.setRow (N + 6) #[.int .u32 (d.1 : Int), .int .u64 (d.2 : Int)] := ⟨_, rfl⟩
    have HR3 : Hid (Z2.heap[N + 6]? = some (.cells #[.int .u32 (d.1 : Int), .int .u64 (d.2 : Int)] 53 (0, 0))) := by rw [hZ2]; exact heapRow_same (unhide HX7) _
    replace HR2 : Hid (Z2.heap[N + 5]? = some (obRow J0.key x2 k2 l2)) := by rw [hZ2]; exact (heapRow_other _ _ _ _ (by omega)).trans (unhide HR2)
    have HS2 : Hid (Z2.heap[K1]? = some (obRow J0.key x2 k2 l2) ∧ Z2.heap[N + 7]? = some (dotRow d)) := by rw [hZ2]; exact ⟨(heapRow_other _ _ _ _ (by have := unhide HK8; omega)).trans (unhide HS1).1, (heapRow_other _ _ _ _ (by omega)).trans (unhide HS1).2⟩
    have HBZ : Hid (Below N u Z2) := by rw [hZ2]; exact belowRow (unhide HBU) (by omega) _
    have HOZ : Hid (OwnT Z2 N J0.st x2) := by rw [hZ2]; exact ((unhide HO5).down (by have := unhide HS8; omega)).keep fun g hg => heapRow_other _ _ _ _ (by have h1 := ((unhide HO5).lt hg).1; have h2 := unhide HS8; omega)
    rw [← hZ2]
    clear hZ2
    refine hK _ _ (fun _ => unhide HS2) ?_
    clear hK K
    refine wpAnyL_one (i := 4) (by kernel_rfl) rfl (by rfl) fun K hK => ?_
    refine wp_val (.int .i64 0) (by go_simp) (some 12) (by rfl) ?_
    refine hK _ _ (fun _ => unhide HS2) ?_
    clear hK K
    simp only [Act.put, List.setIfInBounds_toArray, List.set_cons_zero, List.set_cons_succ]
    refine wpAnyL_done (by kernel_rfl) ?_ _
    go_wp2_with fail
    refine bodyPost_ret (results_cell2 rfl _ _ (N + 5) (N + 6) 33 53 #[.string J0.key, .slice x2.sa k2 x2.sc, .slice x2.ba l2 x2.bc] #[.int .u32 (d.1 : Int), .int .u64 (d.2 : Int)] (0, 0) (0, 0) _ _ rfl rfl (unhide HR2) (unhide HR3) obUnd dotUnd rfl rfl obInfo dotInfo) rfl ?_
    exact ⟨x2, k2, l2, rfl, unhide HE1, unhide HE2, unhide HOZ, unhide HBZ⟩
  · obtain ⟨rfl, rfl⟩ := hnz hr
    have hr' : (r != 0) = true := by simpa using hr
    clear hdz hnz hr
    go_enter Try.func25, Try.ntmps25
    go_wp2_with (first
      | ((with_reducible refine wpList_box_ob (by rfl) (.tmp 0) (by rfl) (some 5) (by rfl) N (unhide HN) o.key v n m (by with_unfolding_all rfl) ?_); intro W1 HX1 HB1 HS1; simp only [Act.put, List.setIfInBounds_toArray, List.set_cons_zero, List.set_cons_succ])
      | ((with_reducible refine wpList_box_row (by rfl) _ (.tmp 1) (by rfl) (some 6) (by rfl) (N + 1) (unhide HS1) _ (by with_unfolding_all rfl) ?_); intro W2 HX2 HB2 HS2; simp only [Act.put, List.setIfInBounds_toArray, List.set_cons_zero, List.set_cons_succ])
      | ((with_reducible refine wpList_box_row (by rfl) _ (.tmp 2) (by rfl) (some 7) (by rfl) (N + 1 + 1) (unhide HS2) _ (by with_unfolding_all rfl) ?_); intro W3 HX3 HB3 HS3; simp only [Act.put, List.setIfInBounds_toArray, List.set_cons_zero, List.set_cons_succ])
      | ((with_reducible refine wpList_box_row (by rfl) _ (.tmp 3) (by rfl) (some 8) (by rfl) (N + 1 + 1 + 1) (unhide HS3) _ (by with_unfolding_all rfl) ?_); intro W4 HX4 HB4 HS4; simp only [Act.put, List.setIfInBounds_toArray, List.set_cons_zero, List.set_cons_succ])
      | ((with_reducible refine wpList_box_row (by rfl) _ (.tmp 4) (by rfl) (some 9) (by rfl) (N + 1 + 1 + 1 + 1) (unhide HS4) _ (by with_unfolding_all rfl) ?_); intro W5 HX5 HB5 HS5; simp only [Act.put, List.setIfInBounds_toArray, List.set_cons_zero, List.set_cons_succ])
      | ((with_reducible refine wpList_alloc_ob (by rfl) (by rfl) (some 10) (by rfl) (N + 1 + 1 + 1 + 1 + 1) (unhide HS5).symm ?_); intro W6 HX6 HB6 HS6; simp only [Act.put, List.setIfInBounds_toArray, List.set_cons_zero, List.set_cons_succ])
      | ((with_reducible refine wpList_alloc_dot (by rfl) (by rfl) (some 11) (by rfl) (N + 1 + 1 + 1 + 1 + 1 + 1) (unhide HS6).symm ?_); intro W7 HX7 HB7 HS7; simp only [Act.put, List.setIfInBounds_toArray, List.set_cons_zero, List.set_cons_succ])
      | ((with_reducible refine wpList_alloc_dot (by rfl) (by rfl) (some 13) (by rfl) (N + 1 + 1 + 1 + 1 + 1 + 1 + 1) (unhide HS7).symm ?_); intro W8 HX8 HB8 HS8; simp only [Act.put, List.setIfInBounds_toArray, List.set_cons_zero, List.set_cons_succ]; have HBU : Hid (Below N u W8) := (((((((unhide HB1).trans ((unhide HB2).mono (by omega))).trans ((unhide HB3).mono (by omega))).trans ((unhide HB4).mono (by omega))).trans ((unhide HB5).mono (by omega))).trans ((unhide HB6).mono (by omega))).trans ((unhide HB7).mono (by omega))).trans ((unhide HB8).mono (by omega)); have HPV : Hid (Pv W8 (N + 1) (N + 1 + 1) (N + 1 + 1 + 1) (N + 1 + 1 + 1 + 1) ao nc c x val gone) := ⟨((unhide HB8).block (N + 1) (by omega)).trans (((unhide HB7).block (N + 1) (by omega)).trans (((unhide HB6).block (N + 1) (by omega)).trans (((unhide HB5).block (N + 1) (by omega)).trans (((unhide HB4).block (N + 1) (by omega)).trans (((unhide HB3).block (N + 1) (by omega)).trans (unhide HX2)))))), ((unhide HB8).block (N + 1 + 1) (by omega)).trans (((unhide HB7).block (N + 1 + 1) (by omega)).trans (((unhide HB6).block (N + 1 + 1) (by omega)).trans (((unhide HB5).block (N + 1 + 1) (by omega)).trans (((unhide HB4).block (N + 1 + 1) (by omega)).trans (unhide HX3))))), ((unhide HB8).block (N + 1 + 1 + 1) (by omega)).trans (((unhide HB7).block (N + 1 + 1 + 1) (by omega)).trans (((unhide HB6).block (N + 1 + 1 + 1) (by omega)).trans (((unhide HB5).block (N + 1 + 1 + 1) (by omega)).trans (unhide HX4)))), ((unhide HB8).block (N + 1 + 1 + 1 + 1) (by omega)).trans (((unhide HB7).block (N + 1 + 1 + 1 + 1) (by omega)).trans (((unhide HB6).block (N + 1 + 1 + 1 + 1) (by omega)).trans (unhide HX5)))⟩; replace HX6 : Hid (W8.heap[N + 5]? = some (obRow ⟨#[]⟩ Sv.none 0 0)) := ((unhide HB8).block (N + 1 + 1 + 1 + 1 + 1) (by omega)).trans (((unhide HB7).block (N + 1 + 1 + 1 + 1 + 1) (by omega)).trans (unhide HX6)); replace HX7 : Hid (W8.heap[N + 6]? = some (dotRow (0, 0))) := ((unhide HB8).block (N + 1 + 1 + 1 + 1 + 1 + 1) (by omega)).trans (unhide HX7); replace HX8 : Hid (W8.heap[N + 7]? = some (dotRow (0, 0))) := unhide HX8; replace HX1 : Hid (W8.heap[N]? = some (obRow o.key v n m)) := ((unhide HB8).block (N) (by omega)).trans (((unhide HB7).block (N) (by omega)).trans (((unhide HB6).block (N) (by omega)).trans (((unhide HB5).block (N) (by omega)).trans (((unhide HB4).block (N) (by omega)).trans (((unhide HB3).block (N) (by omega)).trans (((unhide HB2).block (N) (by omega)).trans (unhide HX1))))))); replace HS8 : Hid (W8.heap.size = N + 8) := unhide HS8; clear HX2 HX3 HX4 HX5 HB1 HB2 HB3 HB4 HB5 HB6 HB7 HB8 HS1 HS2 HS3 HS4 HS5 HS6 HS7; obtain ⟨c0, c1, c2⟩ := ob_cells (unhide HX1))
      | (go_at_call 47; refine (unhide HM W8 (unhide HBU) (unhide HX1) (unhide HPV) (unhide HX8) (Nat.le_of_eq (unhide HS8).symm)).mono ?_; rintro e W9 ⟨x2, k2, l2, rfl, h1, h2, h3, h4, h5⟩; clear c0 c1 c2; have HE1 := hide h1; have HE2 := hide h2; have HO5 := hide h3; have HDO := hide h5; replace HX6 := hide ((h4.block (N + 5) (by rw [unhide HS8]; omega) (by omega)).trans (unhide HX6)); replace HX7 := hide ((h4.block (N + 6) (by rw [unhide HS8]; omega) (by omega)).trans (unhide HX7)); replace HBU : Hid (Below N u W9) := (unhide HBU).trans (h4.toBelow (by rw [unhide HS8]; omega) (by omega)); have HS9 : Hid (N + 8 ≤ W9.heap.size) := (by have := h4.size; rw [unhide HS8] at this; exact this); clear h1 h2 h3 h4 h5; simp only [obV]; obtain ⟨K1, hK1⟩ : ∃ K1, K1 = W9.heap.size := ⟨_, rfl⟩; have HK1 := hide hK1; clear hK1)
      | ((with_reducible refine wpList_alloc_ob (by rfl) (by rfl) (some 14) (by rfl) K1 (unhide HK1) ?_); intro X1 HY1 HB1 HS1; simp only [Act.put, List.setIfInBounds_toArray, List.set_cons_zero, List.set_cons_succ])
      | ((with_reducible refine wpList_store_ob (by rfl) (.tmp 14) (.tmp 20) (by rfl) K1 J0.key x2 k2 l2 (by with_unfolding_all rfl) (by with_unfolding_all rfl) _ _ _ _ (unhide HY1) ?_); intro X2 HY2 HE2b; simp only [Act.put]; have hb : Below W9.heap.size W9 X2 := (by rw [unhide HE2b, ← unhide HK1]; exact belowRow (unhide HB1) (Nat.le_refl _) _); replace HX6 := hide (box_below (unhide HX6) hb); replace HX7 := hide (box_below (unhide HX7) hb); replace HO5 := hide ((unhide HO5).below hb); replace HDO : Hid (_ → X2.heap[N + 7]? = some _) := (fun hz => box_below (unhide HDO hz) hb); replace HBU : Hid (Below N u X2) := (unhide HBU).trans (hb.mono (by have := unhide HS9; omega)); have HK8 : Hid (N + 8 ≤ K1) := (by rw [unhide HK1]; exact unhide HS9); clear hb HY1 HB1 HS1 HE2b HK1 HS9)
      | ((with_reducible refine wpList_store_ob (by rfl) (.tmp 10) (.tmp 24) (by rfl) (N + 5) ⟨#[]⟩ Sv.none 0 0 (by with_unfolding_all rfl) (by with_unfolding_all rfl) _ _ _ _ (unhide HX6) ?_); intro X3 HR2 HF3; simp only [Act.put]; replace HX7 : Hid (X3.heap[N + 6]? = some (.cells #[.int .u32 0, .int .u64 0] 53 (0, 0))) := (by rw [unhide HF3]; exact (heapRow_other _ _ _ _ (by omega)).trans (unhide HX7)); replace HBU : Hid (Below N u X3) := (by rw [unhide HF3]; exact belowRow (unhide HBU) (by omega) _); clear HF3)
      | ((with_reducible refine wpList_store_dot (by rfl) (.tmp 11) (.tmp 25) (by rfl) (N + 6) 0 0 (by with_unfolding_all rfl) (by with_unfolding_all rfl) (unhide HX7) ?_); intro X4 HR3 HF4; simp only [Act.put]; replace HR2 : Hid (X4.heap[N + 5]? = _) := (by rw [unhide HF4]; exact (heapRow_other _ _ _ _ (by omega)).trans (unhide HR2)); have HBZ : Hid (Below N u X4) := (by rw [unhide HF4]; exact belowRow (unhide HBU) (by omega) _); clear HF4 HBU)
      | fail)
    refine bodyPost_ret (results_cell2 rfl _ _ (N + 5) (N + 6) 33 53 #[.string ⟨#[]⟩, .slice none 0 0, .slice none 0 0] #[.int .u32 0, .int .u64 0] (0, 0) (0, 0) _ _ rfl rfl (unhide HR2) (unhide HR3) obUnd dotUnd rfl rfl obInfo dotInfo) rfl ?_
    exact ⟨Sv.none, 0, 0, rfl, rfl, rfl, OwnT.none _ _, unhide HBZ⟩
end Go.Proofs.Ytkcbljmjhlnjpaa
