/- A value taken apart: tallies. -/
import Derived.Test.YtpepgealeanecaaGt
import Derived.Test.YtpepgealeanecaaGq
namespace Go.Proofs.Ytpepgealeanecaa
open Go.RowKit Go.Lib
theorem setCells_cons (w : World) (T o : Nat) (v : Value) (vs : List Value) : w.setCells T o (v :: vs) = (w.setCell ⟨T, o, none⟩ v).setCells T (o + 1) vs := rfl
theorem setCells_other : ∀ (vs : List Value) (w : World) (T o i : Nat), i ≠ T → (w.setCells T o vs).heap[i]? = w.heap[i]?
  | [], _, _, _, _, _ => rfl
  | v :: vs, w, T, o, i, h => by rw [setCells_cons, setCells_other vs _ T (o + 1) i h]; exact Deep.blk_setCell_other w ⟨T, o, none⟩ v i h
theorem setCells_below : ∀ (vs : List Value) (w : World) (T o : Nat) {B : Nat} {u : World}, B ≤ T → Below B u w → Below B u (w.setCells T o vs)
  | [], _, _, _, _, _, _, h => h
  | v :: vs, w, T, o, B, u, hB, h => by rw [setCells_cons]; exact setCells_below vs _ T (o + 1) hB (belowCell h hB v)
theorem setCells_size : ∀ (vs : List Value) (w : World) (T o : Nat), (w.setCells T o vs).heap.size = w.heap.size
  | [], _, _, _ => rfl
  | v :: vs, w, T, o => by rw [setCells_cons, setCells_size vs _ T (o + 1)]; simp [World.setCell]
theorem Bt.set3 {w : World} {N k : Nat} {on : Bool} {fa : Option Addr} {n fc : Nat} {ta ta' : List Nat} {ra : Option Addr} {m rc : Nat} (h : Bt w N k on fa n fc ta ra m rc) (hl : ta'.length = 10) : Bt (w.setCells N 3 (taC ta')) N k on fa n fc ta' ra m rc := by
  refine ⟨?_, hl⟩
  have hr := h.row
  obtain ⟨a0, a1, a2, a3, a4, a5, a6, a7, a8, a9, rfl⟩ := ten h.len
  obtain ⟨b0, b1, b2, b3, b4, b5, b6, b7, b8, b9, rfl⟩ := ten hl
  have h0 := heapCell_same hr 3 (.int .u16 (b0 : Int))
  have h1 := heapCell_same h0 4 (.int .u16 (b1 : Int))
  have h2 := heapCell_same h1 5 (.int .u16 (b2 : Int))
  have h3 := heapCell_same h2 6 (.int .u16 (b3 : Int))
  have h4 := heapCell_same h3 7 (.int .u16 (b4 : Int))
  have h5 := heapCell_same h4 8 (.int .u16 (b5 : Int))
  have h6 := heapCell_same h5 9 (.int .u16 (b6 : Int))
  have h7 := heapCell_same h6 10 (.int .u16 (b7 : Int))
  have h8 := heapCell_same h7 11 (.int .u16 (b8 : Int))
  have h9 := heapCell_same h8 12 (.int .u16 (b9 : Int))
  rw [show w.setCells N 3 (taC [b0, b1, b2, b3, b4, b5, b6, b7, b8, b9]) = (((((((((w.setCell ⟨N, 3, none⟩ (.int .u16 (b0 : Int))).setCell ⟨N, 4, none⟩ (.int .u16 (b1 : Int))).setCell ⟨N, 5, none⟩ (.int .u16 (b2 : Int))).setCell ⟨N, 6, none⟩ (.int .u16 (b3 : Int))).setCell ⟨N, 7, none⟩ (.int .u16 (b4 : Int))).setCell ⟨N, 8, none⟩ (.int .u16 (b5 : Int))).setCell ⟨N, 9, none⟩ (.int .u16 (b6 : Int))).setCell ⟨N, 10, none⟩ (.int .u16 (b7 : Int))).setCell ⟨N, 11, none⟩ (.int .u16 (b8 : Int))).setCell ⟨N, 12, none⟩ (.int .u16 (b9 : Int)) from rfl, h9]
  simp [tyC, taC]
theorem wpList_store_ta {ops : Array Oper} {rest : List Oper} {o : Oper} {a : Act} {w : World} {Q : Exit → Act → World → Prop} (hgd : o.guard = none) (x y : Operand) (ho : o.op = .store 75 x y) (hd : o.dst = none) (g : Nat) (ta' : List Nat) (hx : a.eval x = .pointer (some ⟨g, 3, none⟩)) (hy : a.eval y = .agg (taC ta').toArray) (hl : ta'.length = 10)
    {k : Nat} {on : Bool} {fa : Option Addr} {n fc : Nat} {ta : List Nat} {ra : Option Addr} {m rc : Nat} (hb : Bt w g k on fa n fc ta ra m rc)
    (h : wpList Try.prog ops Q rest a (w.setCells g 3 (taC ta'))) : wpList Try.prog ops Q (o :: rest) a w := by
  have hz : (taC ta').toArray.size = 10 := by simp [taC_len, hl]
  refine wpList_store_mid hgd 75 x y ho g 3 (taC ta').toArray hx hy (by rw [hz]; exact hb.there (by decide)) (by rw [hz]; exact taInfo) ?_ (by rw [hd]; exact h)
  rw [Array.all_eq_true']
  intro v hv
  exact taC_one _ v (by simpa using hv)
theorem Tk.setTa {u w : World} {R a M : Nat} {s : ByteArray} {p : Nat} {e : Int} {k : Nat} {on : Bool} {fa : Option Addr} {n fc : Nat} {ta ta' : List Nat} {ra : Option Addr} {m rc : Nat} {fl : List Nat} (h : Tk u w R a M s p e k on fa n fc ta ra m rc fl) (hl : ta'.length = 10) : Tk u (w.setCells M 3 (taC ta')) R a M s p e k on fa n fc ta' ra m rc fl := by
  have h1 := h.h1
  have h2 := h.h2
  have hR := h.hR
  refine ⟨h.rd.same (by rw [setCells_size]; exact Nat.le_refl _) (setCells_other _ _ _ _ _ (by omega)), h.bt.set3 hl, h.br.same (setCells_other _ _ _ _ _ (by omega)), setCells_below _ _ _ _ (by omega) h.bl, own_keep h.own fun g hg => setCells_other _ _ _ _ _ ?_, hR, h1, h2⟩
  have := World.ownsRow.lt h.own g hg
  omega
set_option maxRecDepth 100000 in
set_option maxHeartbeats 8000000 in
theorem take3 (s : ByteArray) (hs : s.size ≤ 40) (pb : Nat) (eb : Int) (hby : W.fixS s 0 0 1 = (3, pb, eb)) (ta : List Nat) (pZ : Nat) (eZ : Int) (hx : tlF s (s.size - pb + 1) pb eb ta0 = (ta, pZ, eZ)) (u : World) :
    Calls Try.prog 43 #[.string s] u fun z u' => ∃ v, z = .returned v ∧ TkR u u' v (okT s (W.endE s.size pZ eZ) (nT ta)) := by
  have hok := tlF_ok s (s.size - pb + 1) pb eb ta0 rfl (by decide)
  rw [hx] at hok
  have HTL : Hid (ta.length = 10) := hok.1
  have HTD : Hid (∀ v ∈ ta, v < 65536) := hok.2
  have HSZ := hide hs
  have HBY : Hid (∀ (a : Nat) (w : World), W.Rd w a s 0 0 → Calls Try.prog 67 #[.pointer (some ⟨a, 0, none⟩)] w fun y w' => y = .returned (.int .u8 ((3 : Nat) : Int)) ∧ W.Rt w w' a s pb eb) := fun a w h => by have := W.rByte a s 0 0 w h; rw [hby] at this; exact this
  have HTT : Hid (∀ (a : Nat) (w : World), W.Rd w a s pb eb → Calls Try.prog 68 #[.pointer (some ⟨a, 0, none⟩)] w fun y w' => y = .returned (.agg (taC ta).toArray) ∧ W.Rt w w' a s pZ eZ) := fun a w h => by have := lTakeTally a s pb eb w h; rw [hx] at this; exact this
  have HTA : Hid (∀ {w : World} {R a M : Nat}, Tk u w R a M s pZ eZ 3 false none 0 0 ta none 0 0 [] → TAt w (nT ta) none 0 none 0) := fun {w R a M} h => tat_own (t := nT ta) h.own (fun b hb => by cases hb) rfl (unhide HTL) (unhide HTD) rfl (show (3 : Nat) < 256 by decide) (by simp [nT])
  have HTO0 : Hid (∀ (w : World), TAt w (nT ta) none 0 none 0 → Calls Try.prog 52 #[tyV 3 false none 0 0 ta none 0 0] w fun e w' => e = .returned (.string ⟨(toldM (nT ta)).toArray⟩) ∧ Below w.heap.size w w') := fun w h => tTold (nT ta) (by simp [nT]) none 0 none 0 0 0 rfl rfl w h
  have HSC := hide (str_beq (toldM (nT ta)) s)
  have HOK0 : Hid (okT s (W.endE s.size pZ eZ) (nT ta) = if W.endE s.size pZ eZ = 0 ∧ toldM (nT ta) = s.data.toList then some (nT ta) else none) := rfl
  generalize okT s (W.endE s.size pZ eZ) (nT ta) = RES at *
  generalize toldM (nT ta) = TB at *
  generalize (⟨TB.toArray⟩ : ByteArray) = SB at *
  have HRR : Hid (∀ (w : World) a, W.Rd w a s pZ eZ → Calls Try.prog 72 #[.pointer (some ⟨a, 0, none⟩)] w fun x w' => x = .returned (.int .i64 (W.endE s.size pZ eZ)) ∧ ∃ n, w' = w.drewN n) := fun w a h => W.rEnd a s pZ eZ w h
  generalize W.endE s.size pZ eZ = EE at *
  obtain ⟨R, hR⟩ : ∃ R, R = u.heap.size := ⟨_, rfl⟩
  have HR := hide hR
  have hsz : ((s.size : Int) > 40) = False := by simp; omega
  have hsz' : ¬ (40 : Int) < (s.size : Int) := by omega
  clear hR hs hby hx hok
  by_cases he : EE = 0
  · subst he
    by_cases hc : TB = s.data.toList
    · have HOK : Hid (RES = some (nT ta)) := by rw [unhide HOK0, if_pos ⟨rfl, hc⟩]; rfl
      have hcmp : (SB.toList == s.toList) = true := by rw [unhide HSC, decide_eq_true hc]
      clear hc
      go_enter Try.func43, Try.ntmps43
      go_wp2_with (first
          | ((with_reducible refine wpList_alloc_ty (by rfl) (by rfl) (some 2) (by rfl) R (unhide HR) ?_); intro W1 HX1 HB1 HS1; simp only [Act.put, List.setIfInBounds_toArray, List.set_cons_zero, List.set_cons_succ])
          | (go_at_call 66; refine (W.rNew s W1).mono ?_; rintro e W2 ⟨rfl, rfl⟩; have HRD2 := hide (W.Rd.new s W1 124 (by have := unhide HSZ; omega)); have HB2 : Hid (Below W1.heap.size W1 (W1.alloc (.cells #[.string s, .int .i64 0, .int .i64 0] 124))) := (Below.refl _ _).alloc (Nat.le_refl _) _; have HS2 : Hid ((W1.alloc (.cells #[.string s, .int .i64 0, .int .i64 0] 124)).heap.size = W1.heap.size + 1) := hide (by simp); generalize W1.alloc _ = W2 at *; obtain ⟨a, ha⟩ : ∃ a, a = W1.heap.size := ⟨_, rfl⟩; have HA := hide ha; rw [← ha] at HRD2 HS2 ⊢; clear ha)
          | (go_at_call 67; refine (unhide HBY a W2 (unhide HRD2)).mono ?_; rintro e W3 ⟨rfl, hr3⟩; have HRT3 := hide hr3; clear hr3; obtain ⟨M, hM⟩ : ∃ M, M = W3.heap.size := ⟨_, rfl⟩; have HM := hide hM; clear hM; have hbt := bTy 3)
          | ((with_reducible refine wpList_alloc_ty (by rfl) (by rfl) (some 5) (by rfl) M (unhide HM) ?_); intro W4 HX4 HB4 HS4; simp only [Act.put, List.setIfInBounds_toArray, List.set_cons_zero, List.set_cons_succ])
          | ((with_reducible refine wpList_store_ty (by rfl) (.tmp 5) (.tmp 14) (by rfl) M 3 false none 0 0 ta0 none 0 0 (by with_unfolding_all rfl) (by with_unfolding_all rfl) rfl (unhide HX4) ?_); intro W5 HX5 HE5 HS5 HO5; simp only [Act.put]; have HQ := hide (tk_start (unhide HR) (unhide HX1) (unhide HB1) (unhide HS1) (unhide HA) (unhide HB2) (unhide HS2) (unhide HRT3) (unhide HM) (unhide HB4) (unhide HX5) (unhide HE5)); clear HX1 HB1 HS1 HRD2 HB2 HS2 HRT3 HM HX4 HB4 HS4 HX5 HE5 HS5 HO5; have c0 := (unhide HQ).bt.c0)
          | (go_at_call 68; refine (unhide HTT a W5 (unhide HQ).rd).mono ?_; rintro e W6 ⟨rfl, hr6⟩; have HQ6 := hide ((unhide HQ).read hr6); clear hr6 c0)
          | ((with_reducible refine wpList_store_ta (by rfl) (.tmp 33) (.tmp 32) (by rfl) (by rfl) M ta (by with_unfolding_all rfl) (by with_unfolding_all rfl) (unhide HTL) (unhide HQ6).bt ?_); have HQ8 := hide ((unhide HQ6).setTa (unhide HTL)); generalize W6.setCells M 3 (taC ta) = Z8 at HQ8 ⊢)
          | (go_at_call 72; refine (unhide HRR Z8 a (unhide HQ8).rd).mono ?_; rintro e W9 ⟨rfl, cN, rfl⟩; have HQ9 := hide ((unhide HQ8).belw (belowDrewN (Below.refl _ _) cN)); generalize Z8.drewN cN = Z9 at *)
          | (refine wpList_load_ty_on (by rfl) (.tmp 5) (by rfl) (some 57) (by rfl) M (by rfl) (unhide HQ9).bt ?_; simp only [Act.put, List.setIfInBounds_toArray, List.set_cons_zero, List.set_cons_succ])
          | (go_at_call 52; refine (unhide HTO0 Z9 (unhide HTA (unhide HQ9))).mono ?_; rintro e Z10 ⟨rfl, hb10⟩; have HQ10 := hide ((unhide HQ9).belw hb10); clear hb10)
          | ((with_reducible refine wpList_load_ty (by rfl) (.tmp 5) (by rfl) (some 63) (by rfl) M (by with_unfolding_all rfl) (unhide HQ10).bt ?_); simp only [Act.put, List.setIfInBounds_toArray, List.set_cons_zero, List.set_cons_succ])
          | ((with_reducible refine wpList_store_ty (by rfl) (.tmp 2) (.tmp 63) (by rfl) R 3 false none 0 0 ta none 0 0 (by with_unfolding_all rfl) (by with_unfolding_all rfl) (unhide HTL) (unhide HQ10).br ?_); intro Z11 HX11 HE11 HS11 HO11; simp only [Act.put])
          | fail)
      refine bodyPost_ret (results_ty_tmp rfl _ _ R 3 false none 0 0 ta none 0 0 rfl (unhide HX11)) rfl ?_
      rw [unhide HOK]
      refine ⟨_, rfl, none, 0, none, 0, 0, 0, rfl, rfl, rfl, ?_, (by have := unhide HE11; rw [← unhide HR]; exact this _ _ (Nat.le_refl _) (by rw [unhide HR]; exact (unhide HQ10).bl)), (fun g o e => by cases e), (fun g o e => by cases e), (fun _ => ⟨rfl, rfl⟩)⟩
      exact tat_own (t := nT ta) (own_keep (unhide HQ10).own fun g hg => unhide HO11 g (by have := World.ownsRow.lt (unhide HQ10).own g hg; have h1 := (unhide HQ10).h1; have h2 := (unhide HQ10).h2; omega)) (fun b hb => by cases hb) rfl (unhide HTL) (unhide HTD) rfl (show (3 : Nat) < 256 by decide) (by simp [nT])
    · have HOK : Hid (RES = none) := by rw [unhide HOK0, if_neg (fun h => hc h.2)]; rfl
      have hcmp : (SB.toList == s.toList) = false := by rw [unhide HSC, decide_eq_false hc]
      clear hc
      go_enter Try.func43, Try.ntmps43
      go_wp2_with (first
          | ((with_reducible refine wpList_alloc_ty (by rfl) (by rfl) (some 2) (by rfl) R (unhide HR) ?_); intro W1 HX1 HB1 HS1; simp only [Act.put, List.setIfInBounds_toArray, List.set_cons_zero, List.set_cons_succ])
          | (go_at_call 66; refine (W.rNew s W1).mono ?_; rintro e W2 ⟨rfl, rfl⟩; have HRD2 := hide (W.Rd.new s W1 124 (by have := unhide HSZ; omega)); have HB2 : Hid (Below W1.heap.size W1 (W1.alloc (.cells #[.string s, .int .i64 0, .int .i64 0] 124))) := (Below.refl _ _).alloc (Nat.le_refl _) _; have HS2 : Hid ((W1.alloc (.cells #[.string s, .int .i64 0, .int .i64 0] 124)).heap.size = W1.heap.size + 1) := hide (by simp); generalize W1.alloc _ = W2 at *; obtain ⟨a, ha⟩ : ∃ a, a = W1.heap.size := ⟨_, rfl⟩; have HA := hide ha; rw [← ha] at HRD2 HS2 ⊢; clear ha)
          | (go_at_call 67; refine (unhide HBY a W2 (unhide HRD2)).mono ?_; rintro e W3 ⟨rfl, hr3⟩; have HRT3 := hide hr3; clear hr3; obtain ⟨M, hM⟩ : ∃ M, M = W3.heap.size := ⟨_, rfl⟩; have HM := hide hM; clear hM; have hbt := bTy 3)
          | ((with_reducible refine wpList_alloc_ty (by rfl) (by rfl) (some 5) (by rfl) M (unhide HM) ?_); intro W4 HX4 HB4 HS4; simp only [Act.put, List.setIfInBounds_toArray, List.set_cons_zero, List.set_cons_succ])
          | ((with_reducible refine wpList_store_ty (by rfl) (.tmp 5) (.tmp 14) (by rfl) M 3 false none 0 0 ta0 none 0 0 (by with_unfolding_all rfl) (by with_unfolding_all rfl) rfl (unhide HX4) ?_); intro W5 HX5 HE5 HS5 HO5; simp only [Act.put]; have HQ := hide (tk_start (unhide HR) (unhide HX1) (unhide HB1) (unhide HS1) (unhide HA) (unhide HB2) (unhide HS2) (unhide HRT3) (unhide HM) (unhide HB4) (unhide HX5) (unhide HE5)); clear HX1 HB1 HS1 HRD2 HB2 HS2 HRT3 HM HX4 HB4 HS4 HX5 HE5 HS5 HO5; have c0 := (unhide HQ).bt.c0)
          | (go_at_call 68; refine (unhide HTT a W5 (unhide HQ).rd).mono ?_; rintro e W6 ⟨rfl, hr6⟩; have HQ6 := hide ((unhide HQ).read hr6); clear hr6 c0)
          | ((with_reducible refine wpList_store_ta (by rfl) (.tmp 33) (.tmp 32) (by rfl) (by rfl) M ta (by with_unfolding_all rfl) (by with_unfolding_all rfl) (unhide HTL) (unhide HQ6).bt ?_); have HQ8 := hide ((unhide HQ6).setTa (unhide HTL)); generalize W6.setCells M 3 (taC ta) = Z8 at HQ8 ⊢)
          | (go_at_call 72; refine (unhide HRR Z8 a (unhide HQ8).rd).mono ?_; rintro e W9 ⟨rfl, cN, rfl⟩; have HQ9 := hide ((unhide HQ8).belw (belowDrewN (Below.refl _ _) cN)); generalize Z8.drewN cN = Z9 at *)
          | (refine wpList_load_ty_on (by rfl) (.tmp 5) (by rfl) (some 57) (by rfl) M (by rfl) (unhide HQ9).bt ?_; simp only [Act.put, List.setIfInBounds_toArray, List.set_cons_zero, List.set_cons_succ])
          | (go_at_call 52; refine (unhide HTO0 Z9 (unhide HTA (unhide HQ9))).mono ?_; rintro e Z10 ⟨rfl, hb10⟩; have HQ10 := hide ((unhide HQ9).belw hb10); clear hb10)
          | ((with_reducible refine wpList_store_ty (by rfl) (.tmp 2) (.tmp 62) (by rfl) R 0 false none 0 0 ta0 none 0 0 (by with_unfolding_all rfl) (by with_unfolding_all rfl) rfl (unhide HQ10).br ?_); intro Z11 HX11 HE11 HS11 HO11; simp only [Act.put])
          | fail)
      refine bodyPost_ret (results_ty_tmp rfl _ _ R 0 false none 0 0 ta0 none 0 0 rfl (unhide HX11)) rfl ?_
      rw [unhide HOK]
      exact ⟨_, rfl, rfl, (by have := unhide HE11; rw [← unhide HR]; exact this _ _ (Nat.le_refl _) (by rw [unhide HR]; exact (unhide HQ10).bl))⟩
  · have HOK : Hid (RES = none) := by rw [unhide HOK0, if_neg (fun h => he h.1)]; rfl
    have heb : (EE == 0) = false := by simpa using he
    have heb2 : (EE != 0) = true := by simpa using he
    clear he
    go_enter Try.func43, Try.ntmps43
    go_wp2_with (first
        | ((with_reducible refine wpList_alloc_ty (by rfl) (by rfl) (some 2) (by rfl) R (unhide HR) ?_); intro W1 HX1 HB1 HS1; simp only [Act.put, List.setIfInBounds_toArray, List.set_cons_zero, List.set_cons_succ])
        | (go_at_call 66; refine (W.rNew s W1).mono ?_; rintro e W2 ⟨rfl, rfl⟩; have HRD2 := hide (W.Rd.new s W1 124 (by have := unhide HSZ; omega)); have HB2 : Hid (Below W1.heap.size W1 (W1.alloc (.cells #[.string s, .int .i64 0, .int .i64 0] 124))) := (Below.refl _ _).alloc (Nat.le_refl _) _; have HS2 : Hid ((W1.alloc (.cells #[.string s, .int .i64 0, .int .i64 0] 124)).heap.size = W1.heap.size + 1) := hide (by simp); generalize W1.alloc _ = W2 at *; obtain ⟨a, ha⟩ : ∃ a, a = W1.heap.size := ⟨_, rfl⟩; have HA := hide ha; rw [← ha] at HRD2 HS2 ⊢; clear ha)
        | (go_at_call 67; refine (unhide HBY a W2 (unhide HRD2)).mono ?_; rintro e W3 ⟨rfl, hr3⟩; have HRT3 := hide hr3; clear hr3; obtain ⟨M, hM⟩ : ∃ M, M = W3.heap.size := ⟨_, rfl⟩; have HM := hide hM; clear hM; have hbt := bTy 3)
        | ((with_reducible refine wpList_alloc_ty (by rfl) (by rfl) (some 5) (by rfl) M (unhide HM) ?_); intro W4 HX4 HB4 HS4; simp only [Act.put, List.setIfInBounds_toArray, List.set_cons_zero, List.set_cons_succ])
        | ((with_reducible refine wpList_store_ty (by rfl) (.tmp 5) (.tmp 14) (by rfl) M 3 false none 0 0 ta0 none 0 0 (by with_unfolding_all rfl) (by with_unfolding_all rfl) rfl (unhide HX4) ?_); intro W5 HX5 HE5 HS5 HO5; simp only [Act.put]; have HQ := hide (tk_start (unhide HR) (unhide HX1) (unhide HB1) (unhide HS1) (unhide HA) (unhide HB2) (unhide HS2) (unhide HRT3) (unhide HM) (unhide HB4) (unhide HX5) (unhide HE5)); clear HX1 HB1 HS1 HRD2 HB2 HS2 HRT3 HM HX4 HB4 HS4 HX5 HE5 HS5 HO5; have c0 := (unhide HQ).bt.c0)
        | (go_at_call 68; refine (unhide HTT a W5 (unhide HQ).rd).mono ?_; rintro e W6 ⟨rfl, hr6⟩; have HQ6 := hide ((unhide HQ).read hr6); clear hr6 c0)
        | ((with_reducible refine wpList_store_ta (by rfl) (.tmp 33) (.tmp 32) (by rfl) (by rfl) M ta (by with_unfolding_all rfl) (by with_unfolding_all rfl) (unhide HTL) (unhide HQ6).bt ?_); have HQ8 := hide ((unhide HQ6).setTa (unhide HTL)); generalize W6.setCells M 3 (taC ta) = Z8 at HQ8 ⊢)
        | (go_at_call 72; refine (unhide HRR Z8 a (unhide HQ8).rd).mono ?_; rintro e W9 ⟨rfl, cN, rfl⟩; have HQ9 := hide ((unhide HQ8).belw (belowDrewN (Below.refl _ _) cN)); generalize Z8.drewN cN = Z9 at *)
        | (refine wpList_load_ty_on (by rfl) (.tmp 5) (by rfl) (some 57) (by rfl) M (by rfl) (unhide HQ9).bt ?_; simp only [Act.put, List.setIfInBounds_toArray, List.set_cons_zero, List.set_cons_succ])
        | (go_at_call 52; refine (unhide HTO0 Z9 (unhide HTA (unhide HQ9))).mono ?_; rintro e Z10 ⟨rfl, hb10⟩; have HQ10 := hide ((unhide HQ9).belw hb10); clear hb10)
        | ((with_reducible refine wpList_store_ty (by rfl) (.tmp 2) (.tmp 62) (by rfl) R 0 false none 0 0 ta0 none 0 0 (by with_unfolding_all rfl) (by with_unfolding_all rfl) rfl (unhide HQ9).br ?_); intro Z11 HX11 HE11 HS11 HO11; simp only [Act.put])
        | fail)
    refine bodyPost_ret (results_ty_tmp rfl _ _ R 0 false none 0 0 ta0 none 0 0 rfl (unhide HX11)) rfl ?_
    rw [unhide HOK]
    exact ⟨_, rfl, rfl, (by have := unhide HE11; rw [← unhide HR]; exact this _ _ (Nat.le_refl _) (by rw [unhide HR]; exact (unhide HQ9).bl))⟩
end Go.Proofs.Ytpepgealeanecaa
