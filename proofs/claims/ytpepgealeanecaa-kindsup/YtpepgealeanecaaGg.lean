/- A value taken apart: floats and corners. -/
import Derived.Test.YtpepgealeanecaaGf
namespace Go.Proofs.Ytpepgealeanecaa
open Go.RowKit Go.Lib
/-- while a value is taken apart: the reader at a, the variable at M, the result's at R -/
structure Tk (u w : World) (R a M : Nat) (s : ByteArray) (p : Nat) (e : Int) (k : Nat) (on : Bool) (fa : Option Addr) (n fc : Nat) (ta : List Nat) (ra : Option Addr) (m rc : Nat) (fl : List Nat) : Prop where
  rd : W.Rd w a s p e
  bt : Bt w M k on fa n fc ta ra m rc
  br : Bt w R 0 false none 0 0 ta0 none 0 0
  bl : Below u.heap.size u w
  own : w.ownsRow (M + 1) 36 1 (.slice fa n fc) n (flC fl)
  hR : R = u.heap.size
  h1 : R < a
  h2 : a < M
section
variable {u w w' : World} {R a M : Nat} {s : ByteArray} {p : Nat} {e : Int} {k : Nat} {on : Bool} {fa : Option Addr} {n fc : Nat} {ta : List Nat} {ra : Option Addr} {m rc : Nat} {fl : List Nat}
theorem Tk.read {p' : Nat} {e' : Int} (h : Tk u w R a M s p e k on fa n fc ta ra m rc fl) (hr : W.Rt w w' a s p' e') : Tk u w' R a M s p' e' k on fa n fc ta ra m rc fl := by
  have h1 := h.h1
  have h2 := h.h2
  have hR := h.hR
  have hbk : ∀ i, i < w.heap.size → i ≠ a → w'.heap[i]? = w.heap[i]? := fun i hi ha => hr.2.block i hi ha ha
  refine ⟨hr.1, h.bt.same (hbk M h.bt.lt (by omega)), h.br.same (hbk R h.br.lt (by omega)), ⟨hr.2.os.trans h.bl.os, hr.2.tape.trans h.bl.tape, hr.2.output.trans h.bl.output, Nat.le_trans h.bl.size hr.2.size, fun i hi => (hbk i (Nat.lt_of_lt_of_le hi h.bl.size) (by omega)).trans (h.bl.block i hi)⟩, own_keep h.own fun g hg => ?_, hR, h1, h2⟩
  have := World.ownsRow.lt h.own g hg
  exact hbk g this.2 (by omega)
theorem Tk.belw (h : Tk u w R a M s p e k on fa n fc ta ra m rc fl) (hb : Below w.heap.size w w') : Tk u w' R a M s p e k on fa n fc ta ra m rc fl :=
  ⟨Rd.below h.rd hb, h.bt.below hb, h.br.below hb, h.bl.trans (hb.mono h.bl.size), own_below h.own hb, h.hR, h.h1, h.h2⟩
theorem Tk.grow {fa' : Option Addr} {n' fc' : Nat} {fl' : List Nat} (h : Tk u w R a M s p e k on fa n fc ta ra m rc fl) (hb : Below (M + 1) w w') (ho : w'.ownsRow (M + 1) 36 1 (.slice fa' n' fc') n' (flC fl')) : Tk u (w'.setCell ⟨M, 2, none⟩ (.slice fa' n' fc')) R a M s p e k on fa' n' fc' ta ra m rc fl' := by
  have h1 := h.h1
  have h2 := h.h2
  have hR := h.hR
  have ho1 : ∀ i, i ≠ M → (w'.setCell ⟨M, 2, none⟩ (.slice fa' n' fc')).heap[i]? = w'.heap[i]? := fun i hi => Deep.blk_setCell_other w' ⟨M, 2, none⟩ _ i hi
  have hsz : (w'.setCell ⟨M, 2, none⟩ (.slice fa' n' fc')).heap.size = w'.heap.size := by simp [World.setCell]
  have hbk : ∀ i, i < M → (w'.setCell ⟨M, 2, none⟩ (.slice fa' n' fc')).heap[i]? = w.heap[i]? := fun i hi => (ho1 i (by omega)).trans (hb.block i (by omega))
  refine ⟨h.rd.same (by rw [hsz]; exact hb.size) (hbk a h2), (h.bt.same (hb.block M (by omega))).set2 fa' n' fc', h.br.same (hbk R (by omega)), ⟨hb.os.trans h.bl.os, hb.tape.trans h.bl.tape, hb.output.trans h.bl.output, ?_, fun i hi => (hbk i (by omega)).trans (h.bl.block i hi)⟩, own_keep ho fun g hg => ho1 g ?_, hR, h1, h2⟩
  · rw [hsz]; exact Nat.le_trans h.bl.size hb.size
  · have := World.ownsRow.lt ho g hg
    omega
end
/-- a list that lies in new memory -/
def Frsh (N : Nat) (ao : Option Addr) : Prop := ∀ g o, ao = some ⟨g, o, none⟩ → N ≤ g
/-- what take answers -/
def TkR (u u' : World) (y : Value) : Option Ty → Prop
  | some t => ∃ fa fc ra rc n m, y = .tuple #[tyV t.k t.on fa n fc t.ta ra m rc, .bool true] ∧ n = t.fl.length ∧ m = t.ru.length ∧ TAt u' t fa fc ra rc ∧ Below u.heap.size u u' ∧ Frsh u.heap.size fa ∧ Frsh u.heap.size ra ∧ (t.ru = [] → ra = none ∧ rc = 0)
  | none => y = .tuple #[tyV 0 false none 0 0 ta0 none 0 0, .bool false] ∧ Below u.heap.size u u'
/-- a value that is made of this, if it is told so -/
def okT (s : ByteArray) (e : Int) (t : Ty) : Option Ty := if e = 0 ∧ toldM t = s.data.toList then some t else none
theorem str_beq (l : List UInt8) (s : ByteArray) : ((⟨l.toArray⟩ : ByteArray).toList == s.toList) = decide (l = s.data.toList) := by
  rw [Bool.eq_iff_iff]
  simp [ByteArray.toList_eq]
theorem wpList_load_ty_on {ops : Array Oper} {rest : List Oper} {o : Oper} {a : Act} {w : World} {Q : Exit → Act → World → Prop} (hwn : Region.wanted o (yielded ops a.tmps) = true) (x : Operand) (ho : o.op = .load 77 x) (d : Option Tmp) (hd : o.dst = d) (g : Nat) (hx : a.eval x = .pointer (some ⟨g, 0, none⟩)) {k : Nat} {on : Bool} {fa : Option Addr} {n fc : Nat} {ta : List Nat} {ra : Option Addr} {m rc : Nat} (hb : Bt w g k on fa n fc ta ra m rc)
    (h : wpList Try.prog ops Q rest (a.put d (tyV k on fa n fc ta ra m rc)) w) : wpList Try.prog ops Q (o :: rest) a w := by
  subst hd
  refine wpList_step fun K hK => ?_
  rw [if_pos hwn]
  exact wp_load_row _ x ho g hx _ _ _ _ hb.row Try.underlying77 rfl (by rw [tyC_size k on fa n fc hb.len ra m rc]; exact tyInfo) (hK _ _ h)
theorem belowDrew {B : Nat} {a w : World} (h : Below B a w) : Below B a w.drew := ⟨h.os, h.tape, h.output, h.size, h.block⟩
theorem Tk.drew {u w : World} {R a M : Nat} {s : ByteArray} {p : Nat} {e : Int} {k : Nat} {on : Bool} {fa : Option Addr} {n fc : Nat} {ta : List Nat} {ra : Option Addr} {m rc : Nat} {fl : List Nat} (h : Tk u w R a M s p e k on fa n fc ta ra m rc fl) : Tk u w.drew R a M s p e k on fa n fc ta ra m rc fl := h.belw (belowDrew (Below.refl _ _))
theorem builtTy (k : Nat) : Try.prog.built 77 [(0, .int .u8 (k : Int))] = some (tyC k false none 0 0 ta0 none 0 0) := by kernel_rfl
theorem builtTy0 : Try.prog.built 77 [] = some (tyC 0 false none 0 0 ta0 none 0 0) := by kernel_rfl
theorem bTy (k : Nat) (W : World) : (Instr.build 77 #[(0, .int .u8 (k : Int))]).run Try.prog W = .ok (tyV k false none 0 0 ta0 none 0 0) W := run_build W _ _ _ (builtTy k)
theorem bTy0 (W : World) : (Instr.build 77 #[]).run Try.prog W = .ok (tyV 0 false none 0 0 ta0 none 0 0) W := run_build W _ _ _ builtTy0
theorem tk_start {u W1 W2 W3 W4 W5 : World} {R a M : Nat} {s : ByteArray} {p : Nat} {e : Int} {k : Nat} (hR : R = u.heap.size) (hx1 : Bt W1 R 0 false none 0 0 ta0 none 0 0) (hb1 : Below R u W1) (hs1 : W1.heap.size = R + 1) (ha : a = W1.heap.size) (hb2 : Below W1.heap.size W1 W2) (hs2 : W2.heap.size = a + 1) (hrt : W.Rt W2 W3 a s p e) (hM : M = W3.heap.size) (hb4 : Below M W3 W4)
    (hx5 : Bt W5 M k false none 0 0 ta0 none 0 0) (he5 : ∀ B u, B ≤ M → Below B u W4 → Below B u W5) : Tk u W5 R a M s p e k false none 0 0 ta0 none 0 0 [] := by
  have hsz := hrt.2.size
  have b35 : Below W3.heap.size W3 W5 := by rw [← hM]; exact he5 M W3 (Nat.le_refl _) hb4
  have b23 : Below (R + 1) W2 W3 := ⟨hrt.2.os, hrt.2.tape, hrt.2.output, hrt.2.size, fun i hi => hrt.2.block i (by omega) (by omega) (by omega)⟩
  have b25 : Below (R + 1) W2 W5 := b23.trans (b35.mono (by omega))
  have b15 : Below (R + 1) W1 W5 := (hb2.mono (by omega)).trans b25
  refine ⟨Rd.below hrt.1 b35, hx5, hx1.same (b15.block R (by omega)), ?_, ⟨rfl, .inl ⟨rfl, rfl⟩⟩, hR, by omega, by omega⟩
  rw [← hR]
  exact hb1.trans (b15.mono (by omega))
theorem tat_fl {w : World} {B n : Nat} {fa : Option Addr} {fc : Nat} {t : Ty} (ho : w.ownsRow B 36 1 (.slice fa n fc) n (flC t.fl)) (hb : ∀ b ∈ t.fl, b < 18446744073709551616) (ht : t = ⟨t.k, t.on, t.fl, ta0, []⟩) (hn : n = t.fl.length) (hk : t.k < 256) (hf : t.fl.length ≤ 1099511627776) : TAt w t fa fc none 0 := by
  obtain ⟨h1, h2, h3, _⟩ := own_lies ho
  have e1 : t.ta = ta0 := by rw [ht]
  have e2 : t.ru = [] := by rw [ht]
  have q1 : Lies w none (ruC t.ru) := by rw [e2]; exact Lies.nil _ _
  have q2 : ∀ b ∈ t.ru, b < 1114112 := by rw [e2]; intro b hb; cases hb
  have q3 : t.ta.length = 10 := by rw [e1]; rfl
  have q4 : ∀ x ∈ t.ta, x < 65536 := by rw [e1]; decide
  have q5 : t.ru.length ≤ 0 := by rw [e2]; exact Nat.le_refl _
  have q6 : t.ru.length ≤ 1099511627776 := by rw [e2]; decide
  exact ⟨hk, h1, q1, hb, q2, q3, q4, by omega, q5, h3, fun _ => rfl, hf, q6⟩
theorem fixS_lt (s : ByteArray) (p : Nat) (e : Int) : (W.fixS s p e 8).1 < 18446744073709551616 := by
  unfold W.fixS
  split
  · exact (by decide : (0 : Nat) < 18446744073709551616)
  · have h1 := W.numB_lt (W.rawS s p e 8).1.data.toList
    have h2 := W.rawS_size s p e 8
    have h3 : (W.rawS s p e 8).1.data.toList.length = (W.rawS s p e 8).1.size := by rw [Array.length_toList]; rfl
    refine Nat.lt_of_lt_of_le h1 ?_
    have : (W.rawS s p e 8).1.data.toList.length ≤ 8 := by rw [h3]; omega
    exact Nat.le_trans (Nat.pow_le_pow_right (by decide) this) (by decide)
theorem fltS_lt (s : ByteArray) (p : Nat) (e : Int) : (W.fltS s p e).1 < 18446744073709551616 := by
  unfold W.fltS
  split
  · exact (by decide : (0 : Nat) < 18446744073709551616)
  · exact fixS_lt s p e
set_option maxRecDepth 100000 in
set_option maxHeartbeats 8000000 in
theorem take2 (s : ByteArray) (hs : s.size ≤ 40) (pb : Nat) (eb : Int) (hby : W.fixS s 0 0 1 = (2, pb, eb)) (x pZ : Nat) (eZ : Int) (hx : W.fltS s pb eb = (x, pZ, eZ)) (u : World) :
    Calls Try.prog 43 #[.string s] u fun z u' => ∃ v, z = .returned v ∧ TkR u u' v (okT s (W.endE s.size pZ eZ) ⟨2, false, [x], ta0, []⟩) := by
  have hmix : Try.prog.follows .mixedOrders = true := by kernel_rfl
  have HSZ := hide hs
  have HBY : Hid (∀ (a : Nat) (w : World), W.Rd w a s 0 0 → Calls Try.prog 67 #[.pointer (some ⟨a, 0, none⟩)] w fun y w' => y = .returned (.int .u8 ((2 : Nat) : Int)) ∧ W.Rt w w' a s pb eb) := fun a w h => by have := W.rByte a s 0 0 w h; rw [hby] at this; exact this
  have HFX : Hid (∀ (a : Nat) (w : World), W.Rd w a s pb eb → Calls Try.prog 70 #[.pointer (some ⟨a, 0, none⟩)] w fun y w' => ∃ v, y = .returned v ∧ (v = .float .f64 x ∧ W.Rt w w' a s pZ eZ)) := fun a w h => (W.rFloat a s pb eb w h).mono fun y w' hh => by rw [hx] at hh; exact ⟨_, hh.1, rfl, hh.2⟩
  have HXL : Hid (x < 18446744073709551616) := by have := fltS_lt s pb eb; rw [hx] at this; exact this
  have HKL : Hid (2 < 256) := hide (by decide)
  have HNF : Hid ((⟨2, false, [x], ta0, []⟩ : Ty).fl.length ≤ 1099511627776) := hide (by simp)
  have HFB : Hid (∀ b ∈ (⟨2, false, [x], ta0, []⟩ : Ty).fl, b < 18446744073709551616) := by
    intro b hb
    simp only [List.mem_cons, List.not_mem_nil, or_false] at hb
    subst hb
    exact unhide HXL
  have HTA : Hid (∀ {w : World} {R a M : Nat} {fa : Option Addr} {n fc : Nat}, Tk u w R a M s pZ eZ 2 false fa n fc ta0 none 0 0 [x] → n = [x].length → TAt w (⟨2, false, [x], ta0, []⟩ : Ty) fa fc none 0) := fun {w R a M fa n fc} h hn => tat_fl h.own (unhide HFB) rfl hn (unhide HKL) (unhide HNF)
  have HTO0 : Hid (∀ (w : World) (fa : Option Addr) (n fc : Nat), n = [x].length → TAt w (⟨2, false, [x], ta0, []⟩ : Ty) fa fc none 0 → Calls Try.prog 52 #[tyV 2 false fa n fc ta0 none 0 0] w fun e w' => e = .returned (.string ⟨(toldM (⟨2, false, [x], ta0, []⟩ : Ty)).toArray⟩) ∧ Below w.heap.size w w') := fun w fa n fc hn h => tTold (⟨2, false, [x], ta0, []⟩ : Ty) (by simp) fa fc none 0 n 0 hn rfl w h
  have HSC := hide (str_beq (toldM (⟨2, false, [x], ta0, []⟩ : Ty)) s)
  have HOK0 : Hid (okT s (W.endE s.size pZ eZ) (⟨2, false, [x], ta0, []⟩ : Ty) = if W.endE s.size pZ eZ = 0 ∧ toldM (⟨2, false, [x], ta0, []⟩ : Ty) = s.data.toList then some (⟨2, false, [x], ta0, []⟩ : Ty) else none) := rfl
  generalize okT s (W.endE s.size pZ eZ) (⟨2, false, [x], ta0, []⟩ : Ty) = RES at *
  have HEE : Hid (∃ EE, EE = W.endE s.size pZ eZ) := ⟨_, rfl⟩
  generalize toldM (⟨2, false, [x], ta0, []⟩ : Ty) = TB at *
  generalize (⟨TB.toArray⟩ : ByteArray) = SB at *
  have HRR : Hid (∀ (w : World) a, W.Rd w a s pZ eZ → Calls Try.prog 72 #[.pointer (some ⟨a, 0, none⟩)] w fun x w' => x = .returned (.int .i64 (W.endE s.size pZ eZ)) ∧ ∃ n, w' = w.drewN n) := fun w a h => W.rEnd a s pZ eZ w h
  generalize W.endE s.size pZ eZ = EE at *
  obtain ⟨R, hR⟩ : ∃ R, R = u.heap.size := ⟨_, rfl⟩
  have HR := hide hR
  have hsz : ((s.size : Int) > 40) = False := by simp; omega
  have hsz' : ¬ (40 : Int) < (s.size : Int) := by omega
  clear hR hs hby hx 
  by_cases he : EE = 0
  · subst he
    by_cases hc : TB = s.data.toList
    · have HOK : Hid (RES = some (⟨2, false, [x], ta0, []⟩ : Ty)) := by rw [unhide HOK0, if_pos ⟨rfl, hc⟩]; rfl
      have hcmp : (SB.toList == s.toList) = true := by rw [unhide HSC, decide_eq_true hc]
      clear hc
      go_enter Try.func43, Try.ntmps43
      go_wp2_with (first
          | ((with_reducible refine wpList_alloc_ty (by rfl) (by rfl) (some 2) (by rfl) R (unhide HR) ?_); intro W1 HX1 HB1 HS1; simp only [Act.put, List.setIfInBounds_toArray, List.set_cons_zero, List.set_cons_succ])
          | (go_at_call 66; refine (W.rNew s W1).mono ?_; rintro e W2 ⟨rfl, rfl⟩; have HRD2 := hide (W.Rd.new s W1 124 (by have := unhide HSZ; omega)); have HB2 : Hid (Below W1.heap.size W1 (W1.alloc (.cells #[.string s, .int .i64 0, .int .i64 0] 124))) := (Below.refl _ _).alloc (Nat.le_refl _) _; have HS2 : Hid ((W1.alloc (.cells #[.string s, .int .i64 0, .int .i64 0] 124)).heap.size = W1.heap.size + 1) := hide (by simp); generalize W1.alloc _ = W2 at *; obtain ⟨a, ha⟩ : ∃ a, a = W1.heap.size := ⟨_, rfl⟩; have HA := hide ha; rw [← ha] at HRD2 HS2 ⊢; clear ha)
          | (go_at_call 67; refine (unhide HBY a W2 (unhide HRD2)).mono ?_; rintro e W3 ⟨rfl, hr3⟩; have HRT3 := hide hr3; clear hr3; obtain ⟨M, hM⟩ : ∃ M, M = W3.heap.size := ⟨_, rfl⟩; have HM := hide hM; clear hM; have hbt := bTy 2)
          | ((with_reducible refine wpList_alloc_ty (by rfl) (by rfl) (some 5) (by rfl) M (unhide HM) ?_); intro W4 HX4 HB4 HS4; simp only [Act.put, List.setIfInBounds_toArray, List.set_cons_zero, List.set_cons_succ])
          | ((with_reducible refine wpList_store_ty (by rfl) (.tmp 5) (.tmp 14) (by rfl) M 2 false none 0 0 ta0 none 0 0 (by with_unfolding_all rfl) (by with_unfolding_all rfl) rfl (unhide HX4) ?_); intro W5 HX5 HE5 HS5 HO5; simp only [Act.put]; have HQ := hide (tk_start (unhide HR) (unhide HX1) (unhide HB1) (unhide HS1) (unhide HA) (unhide HB2) (unhide HS2) (unhide HRT3) (unhide HM) (unhide HB4) (unhide HX5) (unhide HE5)); clear HX1 HB1 HS1 HRD2 HB2 HS2 HRT3 HM HX4 HB4 HS4 HX5 HE5 HS5 HO5; have c0 := (unhide HQ).bt.c0)
          | fail)
      clear c0
      refine wp_region_last (fun v => Bt v M 2 false none 0 0 ta0 none 0 0) 7 hmix (unhide HQ).drew.bt fun hS => ?_
      have HQ0 : Hid (Tk u W5.drew R a M s pb eb 2 false none 0 0 ta0 none 0 0 []) := (unhide HQ).drew
      generalize W5.drew = Z0 at hS HQ0 ⊢
      refine wpAnyL_take 0 44 (.pointer (some ⟨M, 2, none⟩)) [] rfl rfl (by kernel_rfl) (by kernel_rfl) (by kernel_rfl) (by kernel_rfl) (by kernel_rfl) (fun _ _ _ h => h) (by rfl) (fun _ _ => by go_simp) hS ?_
      simp only [Act.put, List.setIfInBounds_toArray, List.set_cons_zero, List.set_cons_succ]
      refine wpAnyL_take 1 45 (.slice none 0 0) [] rfl rfl (by kernel_rfl) (by kernel_rfl) (by kernel_rfl) (by kernel_rfl) (by kernel_rfl) (fun _ _ _ h => h) (by rfl) (fun v hv => by have q2 := hv.c2; go_simp) hS ?_
      simp only [Act.put, List.setIfInBounds_toArray, List.set_cons_zero, List.set_cons_succ]
      refine wpAnyL_take 2 46 (.pointer (some ⟨a, 0, none⟩)) [] rfl rfl (by kernel_rfl) (by kernel_rfl) (by kernel_rfl) (by kernel_rfl) (by kernel_rfl) (fun _ _ _ h => h) (by rfl) (fun _ _ => by go_simp) hS ?_
      simp only [Act.put, List.setIfInBounds_toArray, List.set_cons_zero, List.set_cons_succ]
      refine wpAnyL_one (i := 3) (by kernel_rfl) rfl (by rfl) fun K hK => ?_
      refine wp_call_fn 70 _ _ (by rfl) #[.pointer (some ⟨a, 0, none⟩)] (by with_unfolding_all rfl) entRF (some 47) (by rfl) _ (unhide HFX a Z0 (unhide HQ0).rd) ?_
      rintro _ Z5 ⟨rfl, hr⟩
      have HQ5 := hide ((unhide HQ0).read hr)
      clear hr
      refine hK _ _ (fun _ => (unhide HQ5).bt) ?_
      clear hK K
      simp only [Act.put, List.setIfInBounds_toArray, List.set_cons_zero, List.set_cons_succ]
      refine wpAnyL_one (i := 4) (by kernel_rfl) rfl (by rfl) fun K hK => ?_
      refine wp_buildTo (by rfl) _ _ (by simp only [List.map_toArray, List.map_cons, List.map_nil]; exact bsF Z5 x) (some 48) (by rfl) ?_
      have HQ6 := hide ((unhide HQ5).belw ((Below.refl _ _).alloc (Nat.le_refl _) (.cells #[.float .f64 x] 36)))
      have HC6 := hide (one_cell Z5 (.float .f64 x) 36)
      generalize Z5.alloc (.cells #[.float .f64 x] 36) = Z6 at HQ6 HC6 ⊢
      generalize Z5.heap.size = G6 at HC6 ⊢
      refine hK _ _ (fun _ => (unhide HQ6).bt) ?_
      clear hK K
      simp only [Act.put, List.setIfInBounds_toArray, List.set_cons_zero, List.set_cons_succ]
      refine wpAnyL_one (i := 5) (by kernel_rfl) rfl (by rfl) fun K hK => ?_
      refine wp_putV elF (.tmp 45) (.tmp 48) (by rfl) (some 49) (by rfl) (M + 1) (flC []) (.float .f64 x) none 0 0 G6 0 1 (by rfl) (by rfl) (unhide HQ6).own (unhide HC6) rfl (by omega) (by unfold maxLen; omega) (by have := (unhide HQ6).bt.lt; omega) ?_
      intro fa' n' fc' Z7 HN7 HO7 _ HB7
      have HBT7 := hide ((unhide HQ6).bt.same ((unhide HB7).block M (by omega)))
      refine hK _ _ (fun _ => unhide HBT7) ?_
      clear hK K
      simp only [Act.put, List.setIfInBounds_toArray, List.set_cons_zero, List.set_cons_succ]
      refine wpAnyL_one (i := 6) (by kernel_rfl) rfl (by rfl) fun K hK => ?_
      refine wp_val (.pointer (some ⟨M, 2, none⟩)) (by go_simp) (some 50) (by rfl) ?_
      refine hK _ _ (fun _ => unhide HBT7) ?_
      clear hK K
      simp only [Act.put, List.setIfInBounds_toArray, List.set_cons_zero, List.set_cons_succ]
      refine wpAnyL_one (i := 7) (by kernel_rfl) rfl (by rfl) fun K hK => ?_
      refine wp_store_sl 28 (.tmp 50) (.tmp 49) (by rfl) (by rfl) M 2 fa' n' fc' (by rfl) (by rfl) ((unhide HBT7).there (by decide)) infoF ?_
      have HQ8 : Hid (Tk u (Z7.setCell ⟨M, 2, none⟩ (.slice fa' n' fc')) R a M s pZ eZ 2 false fa' n' fc' ta0 none 0 0 [x]) := (unhide HQ6).grow (unhide HB7) (by have := unhide HO7; rw [show flC [] ++ [Value.float .f64 x] = flC [x] from rfl] at this; exact this)
      generalize Z7.setCell ⟨M, 2, none⟩ (.slice fa' n' fc') = Z8 at HQ8 ⊢
      refine hK _ _ (fun h => absurd rfl h) ?_
      clear hK K
      refine wpAnyL_done (by kernel_rfl) ?_ _
      clear HQ0 HQ5 HQ6 HC6 HO7 HB7 HBT7 hS
      have HN8 : Hid (n' = 1) := unhide HN7
      clear HN7 HQ
      go_wp2_with (first
          | (go_at_call 72; refine (unhide HRR Z8 a (unhide HQ8).rd).mono ?_; rintro e W9 ⟨rfl, cN, rfl⟩; have HQ9 := hide ((unhide HQ8).belw (belowDrewN (Below.refl _ _) cN)); generalize Z8.drewN cN = Z9 at *)
          | (refine wpList_load_ty_on (by rfl) (.tmp 5) (by rfl) (some 57) (by rfl) M (by rfl) (unhide HQ9).bt ?_; simp only [Act.put, List.setIfInBounds_toArray, List.set_cons_zero, List.set_cons_succ])
          | (go_at_call 52; refine (unhide HTO0 Z9 fa' n' fc' (unhide HN8) (unhide HTA (unhide HQ9) (unhide HN8))).mono ?_; rintro e Z10 ⟨rfl, hb10⟩; have HQ10 := hide ((unhide HQ9).belw hb10); clear hb10)
          | ((with_reducible refine wpList_load_ty (by rfl) (.tmp 5) (by rfl) (some 63) (by rfl) M (by with_unfolding_all rfl) (unhide HQ10).bt ?_); simp only [Act.put, List.setIfInBounds_toArray, List.set_cons_zero, List.set_cons_succ])
          | ((with_reducible refine wpList_store_ty (by rfl) (.tmp 2) (.tmp 63) (by rfl) R 2 false fa' n' fc' ta0 none 0 0 (by with_unfolding_all rfl) (by with_unfolding_all rfl) rfl (unhide HQ10).br ?_); intro Z11 HX11 HE11 HS11 HO11; simp only [Act.put])
          | fail)
      refine bodyPost_ret (results_ty_tmp rfl _ _ R 2 false fa' n' fc' ta0 none 0 0 rfl (unhide HX11)) rfl ?_
      rw [unhide HOK]
      refine ⟨_, rfl, fa', fc', none, 0, n', 0, rfl, unhide HN8, rfl, ?_, (by have := unhide HE11; rw [← unhide HR]; exact this _ _ (Nat.le_refl _) (by rw [unhide HR]; exact (unhide HQ10).bl)), (fun g o e => by have h1 := (own_lies (unhide HQ10).own).2.2.2 g o e; have h2 := (unhide HQ10).h1; have h3 := (unhide HQ10).h2; have h4 := (unhide HQ10).hR; omega), (fun g o e => by cases e), (fun _ => ⟨rfl, rfl⟩)⟩
      refine tat_fl (own_keep (unhide HQ10).own fun g hg => ?_) (unhide HFB) rfl (unhide HN8) (unhide HKL) (unhide HNF)
      refine unhide HO11 g ?_
      have := World.ownsRow.lt (unhide HQ10).own g hg
      have h1 := (unhide HQ10).h1
      have h2 := (unhide HQ10).h2
      omega
    · have HOK : Hid (RES = none) := by rw [unhide HOK0, if_neg (fun h => hc h.2)]; rfl
      have hcmp : (SB.toList == s.toList) = false := by rw [unhide HSC, decide_eq_false hc]
      clear hc
      go_enter Try.func43, Try.ntmps43
      go_wp2_with (first
          | ((with_reducible refine wpList_alloc_ty (by rfl) (by rfl) (some 2) (by rfl) R (unhide HR) ?_); intro W1 HX1 HB1 HS1; simp only [Act.put, List.setIfInBounds_toArray, List.set_cons_zero, List.set_cons_succ])
          | (go_at_call 66; refine (W.rNew s W1).mono ?_; rintro e W2 ⟨rfl, rfl⟩; have HRD2 := hide (W.Rd.new s W1 124 (by have := unhide HSZ; omega)); have HB2 : Hid (Below W1.heap.size W1 (W1.alloc (.cells #[.string s, .int .i64 0, .int .i64 0] 124))) := (Below.refl _ _).alloc (Nat.le_refl _) _; have HS2 : Hid ((W1.alloc (.cells #[.string s, .int .i64 0, .int .i64 0] 124)).heap.size = W1.heap.size + 1) := hide (by simp); generalize W1.alloc _ = W2 at *; obtain ⟨a, ha⟩ : ∃ a, a = W1.heap.size := ⟨_, rfl⟩; have HA := hide ha; rw [← ha] at HRD2 HS2 ⊢; clear ha)
          | (go_at_call 67; refine (unhide HBY a W2 (unhide HRD2)).mono ?_; rintro e W3 ⟨rfl, hr3⟩; have HRT3 := hide hr3; clear hr3; obtain ⟨M, hM⟩ : ∃ M, M = W3.heap.size := ⟨_, rfl⟩; have HM := hide hM; clear hM; have hbt := bTy 2)
          | ((with_reducible refine wpList_alloc_ty (by rfl) (by rfl) (some 5) (by rfl) M (unhide HM) ?_); intro W4 HX4 HB4 HS4; simp only [Act.put, List.setIfInBounds_toArray, List.set_cons_zero, List.set_cons_succ])
          | ((with_reducible refine wpList_store_ty (by rfl) (.tmp 5) (.tmp 14) (by rfl) M 2 false none 0 0 ta0 none 0 0 (by with_unfolding_all rfl) (by with_unfolding_all rfl) rfl (unhide HX4) ?_); intro W5 HX5 HE5 HS5 HO5; simp only [Act.put]; have HQ := hide (tk_start (unhide HR) (unhide HX1) (unhide HB1) (unhide HS1) (unhide HA) (unhide HB2) (unhide HS2) (unhide HRT3) (unhide HM) (unhide HB4) (unhide HX5) (unhide HE5)); clear HX1 HB1 HS1 HRD2 HB2 HS2 HRT3 HM HX4 HB4 HS4 HX5 HE5 HS5 HO5; have c0 := (unhide HQ).bt.c0)
          | fail)
      clear c0
      refine wp_region_last (fun v => Bt v M 2 false none 0 0 ta0 none 0 0) 7 hmix (unhide HQ).drew.bt fun hS => ?_
      have HQ0 : Hid (Tk u W5.drew R a M s pb eb 2 false none 0 0 ta0 none 0 0 []) := (unhide HQ).drew
      generalize W5.drew = Z0 at hS HQ0 ⊢
      refine wpAnyL_take 0 44 (.pointer (some ⟨M, 2, none⟩)) [] rfl rfl (by kernel_rfl) (by kernel_rfl) (by kernel_rfl) (by kernel_rfl) (by kernel_rfl) (fun _ _ _ h => h) (by rfl) (fun _ _ => by go_simp) hS ?_
      simp only [Act.put, List.setIfInBounds_toArray, List.set_cons_zero, List.set_cons_succ]
      refine wpAnyL_take 1 45 (.slice none 0 0) [] rfl rfl (by kernel_rfl) (by kernel_rfl) (by kernel_rfl) (by kernel_rfl) (by kernel_rfl) (fun _ _ _ h => h) (by rfl) (fun v hv => by have q2 := hv.c2; go_simp) hS ?_
      simp only [Act.put, List.setIfInBounds_toArray, List.set_cons_zero, List.set_cons_succ]
      refine wpAnyL_take 2 46 (.pointer (some ⟨a, 0, none⟩)) [] rfl rfl (by kernel_rfl) (by kernel_rfl) (by kernel_rfl) (by kernel_rfl) (by kernel_rfl) (fun _ _ _ h => h) (by rfl) (fun _ _ => by go_simp) hS ?_
      simp only [Act.put, List.setIfInBounds_toArray, List.set_cons_zero, List.set_cons_succ]
      refine wpAnyL_one (i := 3) (by kernel_rfl) rfl (by rfl) fun K hK => ?_
      refine wp_call_fn 70 _ _ (by rfl) #[.pointer (some ⟨a, 0, none⟩)] (by with_unfolding_all rfl) entRF (some 47) (by rfl) _ (unhide HFX a Z0 (unhide HQ0).rd) ?_
      rintro _ Z5 ⟨rfl, hr⟩
      have HQ5 := hide ((unhide HQ0).read hr)
      clear hr
      refine hK _ _ (fun _ => (unhide HQ5).bt) ?_
      clear hK K
      simp only [Act.put, List.setIfInBounds_toArray, List.set_cons_zero, List.set_cons_succ]
      refine wpAnyL_one (i := 4) (by kernel_rfl) rfl (by rfl) fun K hK => ?_
      refine wp_buildTo (by rfl) _ _ (by simp only [List.map_toArray, List.map_cons, List.map_nil]; exact bsF Z5 x) (some 48) (by rfl) ?_
      have HQ6 := hide ((unhide HQ5).belw ((Below.refl _ _).alloc (Nat.le_refl _) (.cells #[.float .f64 x] 36)))
      have HC6 := hide (one_cell Z5 (.float .f64 x) 36)
      generalize Z5.alloc (.cells #[.float .f64 x] 36) = Z6 at HQ6 HC6 ⊢
      generalize Z5.heap.size = G6 at HC6 ⊢
      refine hK _ _ (fun _ => (unhide HQ6).bt) ?_
      clear hK K
      simp only [Act.put, List.setIfInBounds_toArray, List.set_cons_zero, List.set_cons_succ]
      refine wpAnyL_one (i := 5) (by kernel_rfl) rfl (by rfl) fun K hK => ?_
      refine wp_putV elF (.tmp 45) (.tmp 48) (by rfl) (some 49) (by rfl) (M + 1) (flC []) (.float .f64 x) none 0 0 G6 0 1 (by rfl) (by rfl) (unhide HQ6).own (unhide HC6) rfl (by omega) (by unfold maxLen; omega) (by have := (unhide HQ6).bt.lt; omega) ?_
      intro fa' n' fc' Z7 HN7 HO7 _ HB7
      have HBT7 := hide ((unhide HQ6).bt.same ((unhide HB7).block M (by omega)))
      refine hK _ _ (fun _ => unhide HBT7) ?_
      clear hK K
      simp only [Act.put, List.setIfInBounds_toArray, List.set_cons_zero, List.set_cons_succ]
      refine wpAnyL_one (i := 6) (by kernel_rfl) rfl (by rfl) fun K hK => ?_
      refine wp_val (.pointer (some ⟨M, 2, none⟩)) (by go_simp) (some 50) (by rfl) ?_
      refine hK _ _ (fun _ => unhide HBT7) ?_
      clear hK K
      simp only [Act.put, List.setIfInBounds_toArray, List.set_cons_zero, List.set_cons_succ]
      refine wpAnyL_one (i := 7) (by kernel_rfl) rfl (by rfl) fun K hK => ?_
      refine wp_store_sl 28 (.tmp 50) (.tmp 49) (by rfl) (by rfl) M 2 fa' n' fc' (by rfl) (by rfl) ((unhide HBT7).there (by decide)) infoF ?_
      have HQ8 : Hid (Tk u (Z7.setCell ⟨M, 2, none⟩ (.slice fa' n' fc')) R a M s pZ eZ 2 false fa' n' fc' ta0 none 0 0 [x]) := (unhide HQ6).grow (unhide HB7) (by have := unhide HO7; rw [show flC [] ++ [Value.float .f64 x] = flC [x] from rfl] at this; exact this)
      generalize Z7.setCell ⟨M, 2, none⟩ (.slice fa' n' fc') = Z8 at HQ8 ⊢
      refine hK _ _ (fun h => absurd rfl h) ?_
      clear hK K
      refine wpAnyL_done (by kernel_rfl) ?_ _
      clear HQ0 HQ5 HQ6 HC6 HO7 HB7 HBT7 hS
      have HN8 : Hid (n' = 1) := unhide HN7
      clear HN7 HQ
      go_wp2_with (first
          | (go_at_call 72; refine (unhide HRR Z8 a (unhide HQ8).rd).mono ?_; rintro e W9 ⟨rfl, cN, rfl⟩; have HQ9 := hide ((unhide HQ8).belw (belowDrewN (Below.refl _ _) cN)); generalize Z8.drewN cN = Z9 at *)
          | (refine wpList_load_ty_on (by rfl) (.tmp 5) (by rfl) (some 57) (by rfl) M (by rfl) (unhide HQ9).bt ?_; simp only [Act.put, List.setIfInBounds_toArray, List.set_cons_zero, List.set_cons_succ])
          | (go_at_call 52; refine (unhide HTO0 Z9 fa' n' fc' (unhide HN8) (unhide HTA (unhide HQ9) (unhide HN8))).mono ?_; rintro e Z10 ⟨rfl, hb10⟩; have HQ10 := hide ((unhide HQ9).belw hb10); clear hb10)
          | ((with_reducible refine wpList_store_ty (by rfl) (.tmp 2) (.tmp 62) (by rfl) R 0 false none 0 0 ta0 none 0 0 (by with_unfolding_all rfl) (by with_unfolding_all rfl) rfl (unhide HQ10).br ?_); intro Z11 HX11 HE11 HS11 HO11; simp only [Act.put])
          | fail)
      refine bodyPost_ret (results_ty_tmp rfl _ _ R 0 false none 0 0 ta0 none 0 0 rfl (unhide HX11)) rfl ?_
      rw [unhide HOK]
      exact ⟨_, rfl, rfl, (by have := unhide HE11; rw [← unhide HR]; exact this _ _ (Nat.le_refl _) (by rw [unhide HR]; exact (unhide HQ10).bl))⟩
  · have HOK : Hid (RES = none) := by rw [unhide HOK0, if_neg (fun h => he h.1)]; rfl
    have heb : (EE == 0) = false := by simpa using he
    have heb2 : (EE != 0) = true := by simpa using he
    clear he
    go_enter Try.func43, Try.ntmps43
    go_wp2_with (first
        | ((with_reducible refine wpList_alloc_ty (by rfl) (by rfl) (some 2) (by rfl) R (unhide HR) ?_); intro W1 HX1 HB1 HS1; simp only [Act.put, List.setIfInBounds_toArray, List.set_cons_zero, List.set_cons_succ])
        | (go_at_call 66; refine (W.rNew s W1).mono ?_; rintro e W2 ⟨rfl, rfl⟩; have HRD2 := hide (W.Rd.new s W1 124 (by have := unhide HSZ; omega)); have HB2 : Hid (Below W1.heap.size W1 (W1.alloc (.cells #[.string s, .int .i64 0, .int .i64 0] 124))) := (Below.refl _ _).alloc (Nat.le_refl _) _; have HS2 : Hid ((W1.alloc (.cells #[.string s, .int .i64 0, .int .i64 0] 124)).heap.size = W1.heap.size + 1) := hide (by simp); generalize W1.alloc _ = W2 at *; obtain ⟨a, ha⟩ : ∃ a, a = W1.heap.size := ⟨_, rfl⟩; have HA := hide ha; rw [← ha] at HRD2 HS2 ⊢; clear ha)
        | (go_at_call 67; refine (unhide HBY a W2 (unhide HRD2)).mono ?_; rintro e W3 ⟨rfl, hr3⟩; have HRT3 := hide hr3; clear hr3; obtain ⟨M, hM⟩ : ∃ M, M = W3.heap.size := ⟨_, rfl⟩; have HM := hide hM; clear hM; have hbt := bTy 2)
        | ((with_reducible refine wpList_alloc_ty (by rfl) (by rfl) (some 5) (by rfl) M (unhide HM) ?_); intro W4 HX4 HB4 HS4; simp only [Act.put, List.setIfInBounds_toArray, List.set_cons_zero, List.set_cons_succ])
        | ((with_reducible refine wpList_store_ty (by rfl) (.tmp 5) (.tmp 14) (by rfl) M 2 false none 0 0 ta0 none 0 0 (by with_unfolding_all rfl) (by with_unfolding_all rfl) rfl (unhide HX4) ?_); intro W5 HX5 HE5 HS5 HO5; simp only [Act.put]; have HQ := hide (tk_start (unhide HR) (unhide HX1) (unhide HB1) (unhide HS1) (unhide HA) (unhide HB2) (unhide HS2) (unhide HRT3) (unhide HM) (unhide HB4) (unhide HX5) (unhide HE5)); clear HX1 HB1 HS1 HRD2 HB2 HS2 HRT3 HM HX4 HB4 HS4 HX5 HE5 HS5 HO5; have c0 := (unhide HQ).bt.c0)
        | fail)
    clear c0
    refine wp_region_last (fun v => Bt v M 2 false none 0 0 ta0 none 0 0) 7 hmix (unhide HQ).drew.bt fun hS => ?_
    have HQ0 : Hid (Tk u W5.drew R a M s pb eb 2 false none 0 0 ta0 none 0 0 []) := (unhide HQ).drew
    generalize W5.drew = Z0 at hS HQ0 ⊢
    refine wpAnyL_take 0 44 (.pointer (some ⟨M, 2, none⟩)) [] rfl rfl (by kernel_rfl) (by kernel_rfl) (by kernel_rfl) (by kernel_rfl) (by kernel_rfl) (fun _ _ _ h => h) (by rfl) (fun _ _ => by go_simp) hS ?_
    simp only [Act.put, List.setIfInBounds_toArray, List.set_cons_zero, List.set_cons_succ]
    refine wpAnyL_take 1 45 (.slice none 0 0) [] rfl rfl (by kernel_rfl) (by kernel_rfl) (by kernel_rfl) (by kernel_rfl) (by kernel_rfl) (fun _ _ _ h => h) (by rfl) (fun v hv => by have q2 := hv.c2; go_simp) hS ?_
    simp only [Act.put, List.setIfInBounds_toArray, List.set_cons_zero, List.set_cons_succ]
    refine wpAnyL_take 2 46 (.pointer (some ⟨a, 0, none⟩)) [] rfl rfl (by kernel_rfl) (by kernel_rfl) (by kernel_rfl) (by kernel_rfl) (by kernel_rfl) (fun _ _ _ h => h) (by rfl) (fun _ _ => by go_simp) hS ?_
    simp only [Act.put, List.setIfInBounds_toArray, List.set_cons_zero, List.set_cons_succ]
    refine wpAnyL_one (i := 3) (by kernel_rfl) rfl (by rfl) fun K hK => ?_
    refine wp_call_fn 70 _ _ (by rfl) #[.pointer (some ⟨a, 0, none⟩)] (by with_unfolding_all rfl) entRF (some 47) (by rfl) _ (unhide HFX a Z0 (unhide HQ0).rd) ?_
    rintro _ Z5 ⟨rfl, hr⟩
    have HQ5 := hide ((unhide HQ0).read hr)
    clear hr
    refine hK _ _ (fun _ => (unhide HQ5).bt) ?_
    clear hK K
    simp only [Act.put, List.setIfInBounds_toArray, List.set_cons_zero, List.set_cons_succ]
    refine wpAnyL_one (i := 4) (by kernel_rfl) rfl (by rfl) fun K hK => ?_
    refine wp_buildTo (by rfl) _ _ (by simp only [List.map_toArray, List.map_cons, List.map_nil]; exact bsF Z5 x) (some 48) (by rfl) ?_
    have HQ6 := hide ((unhide HQ5).belw ((Below.refl _ _).alloc (Nat.le_refl _) (.cells #[.float .f64 x] 36)))
    have HC6 := hide (one_cell Z5 (.float .f64 x) 36)
    generalize Z5.alloc (.cells #[.float .f64 x] 36) = Z6 at HQ6 HC6 ⊢
    generalize Z5.heap.size = G6 at HC6 ⊢
    refine hK _ _ (fun _ => (unhide HQ6).bt) ?_
    clear hK K
    simp only [Act.put, List.setIfInBounds_toArray, List.set_cons_zero, List.set_cons_succ]
    refine wpAnyL_one (i := 5) (by kernel_rfl) rfl (by rfl) fun K hK => ?_
    refine wp_putV elF (.tmp 45) (.tmp 48) (by rfl) (some 49) (by rfl) (M + 1) (flC []) (.float .f64 x) none 0 0 G6 0 1 (by rfl) (by rfl) (unhide HQ6).own (unhide HC6) rfl (by omega) (by unfold maxLen; omega) (by have := (unhide HQ6).bt.lt; omega) ?_
    intro fa' n' fc' Z7 HN7 HO7 _ HB7
    have HBT7 := hide ((unhide HQ6).bt.same ((unhide HB7).block M (by omega)))
    refine hK _ _ (fun _ => unhide HBT7) ?_
    clear hK K
    simp only [Act.put, List.setIfInBounds_toArray, List.set_cons_zero, List.set_cons_succ]
    refine wpAnyL_one (i := 6) (by kernel_rfl) rfl (by rfl) fun K hK => ?_
    refine wp_val (.pointer (some ⟨M, 2, none⟩)) (by go_simp) (some 50) (by rfl) ?_
    refine hK _ _ (fun _ => unhide HBT7) ?_
    clear hK K
    simp only [Act.put, List.setIfInBounds_toArray, List.set_cons_zero, List.set_cons_succ]
    refine wpAnyL_one (i := 7) (by kernel_rfl) rfl (by rfl) fun K hK => ?_
    refine wp_store_sl 28 (.tmp 50) (.tmp 49) (by rfl) (by rfl) M 2 fa' n' fc' (by rfl) (by rfl) ((unhide HBT7).there (by decide)) infoF ?_
    have HQ8 : Hid (Tk u (Z7.setCell ⟨M, 2, none⟩ (.slice fa' n' fc')) R a M s pZ eZ 2 false fa' n' fc' ta0 none 0 0 [x]) := (unhide HQ6).grow (unhide HB7) (by have := unhide HO7; rw [show flC [] ++ [Value.float .f64 x] = flC [x] from rfl] at this; exact this)
    generalize Z7.setCell ⟨M, 2, none⟩ (.slice fa' n' fc') = Z8 at HQ8 ⊢
    refine hK _ _ (fun h => absurd rfl h) ?_
    clear hK K
    refine wpAnyL_done (by kernel_rfl) ?_ _
    clear HQ0 HQ5 HQ6 HC6 HO7 HB7 HBT7 hS
    have HN8 : Hid (n' = 1) := unhide HN7
    clear HN7 HQ
    go_wp2_with (first
        | (go_at_call 72; refine (unhide HRR Z8 a (unhide HQ8).rd).mono ?_; rintro e W9 ⟨rfl, cN, rfl⟩; have HQ9 := hide ((unhide HQ8).belw (belowDrewN (Below.refl _ _) cN)); generalize Z8.drewN cN = Z9 at *)
        | (refine wpList_load_ty_on (by rfl) (.tmp 5) (by rfl) (some 57) (by rfl) M (by rfl) (unhide HQ9).bt ?_; simp only [Act.put, List.setIfInBounds_toArray, List.set_cons_zero, List.set_cons_succ])
        | (go_at_call 52; refine (unhide HTO0 Z9 fa' n' fc' (unhide HN8) (unhide HTA (unhide HQ9) (unhide HN8))).mono ?_; rintro e Z10 ⟨rfl, hb10⟩; have HQ10 := hide ((unhide HQ9).belw hb10); clear hb10)
        | ((with_reducible refine wpList_store_ty (by rfl) (.tmp 2) (.tmp 62) (by rfl) R 0 false none 0 0 ta0 none 0 0 (by with_unfolding_all rfl) (by with_unfolding_all rfl) rfl (unhide HQ9).br ?_); intro Z11 HX11 HE11 HS11 HO11; simp only [Act.put])
        | fail)
    refine bodyPost_ret (results_ty_tmp rfl _ _ R 0 false none 0 0 ta0 none 0 0 rfl (unhide HX11)) rfl ?_
    rw [unhide HOK]
    exact ⟨_, rfl, rfl, (by have := unhide HE11; rw [← unhide HR]; exact this _ _ (Nat.le_refl _) (by rw [unhide HR]; exact (unhide HQ9).bl))⟩
set_option maxRecDepth 100000 in
set_option maxHeartbeats 8000000 in
theorem take5 (s : ByteArray) (hs : s.size ≤ 40) (pb : Nat) (eb : Int) (hby : W.fixS s 0 0 1 = (5, pb, eb)) (x p1 : Nat) (e1 : Int) (hx : W.fltS s pb eb = (x, p1, e1)) (y pZ : Nat) (eZ : Int) (hy : W.fltS s p1 e1 = (y, pZ, eZ)) (u : World) :
    Calls Try.prog 43 #[.string s] u fun z u' => ∃ v, z = .returned v ∧ TkR u u' v (okT s (W.endE s.size pZ eZ) ⟨5, false, [x, y], ta0, []⟩) := by
  have hmix : Try.prog.follows .mixedOrders = true := by kernel_rfl
  have HSZ := hide hs
  have HBY : Hid (∀ (a : Nat) (w : World), W.Rd w a s 0 0 → Calls Try.prog 67 #[.pointer (some ⟨a, 0, none⟩)] w fun y w' => y = .returned (.int .u8 ((5 : Nat) : Int)) ∧ W.Rt w w' a s pb eb) := fun a w h => by have := W.rByte a s 0 0 w h; rw [hby] at this; exact this
  have HFX : Hid (∀ (a : Nat) (w : World), W.Rd w a s pb eb → Calls Try.prog 70 #[.pointer (some ⟨a, 0, none⟩)] w fun y w' => ∃ v, y = .returned v ∧ (v = .float .f64 x ∧ W.Rt w w' a s p1 e1)) := fun a w h => (W.rFloat a s pb eb w h).mono fun y w' hh => by rw [hx] at hh; exact ⟨_, hh.1, rfl, hh.2⟩
  have HFY : Hid (∀ (a : Nat) (w : World), W.Rd w a s p1 e1 → Calls Try.prog 70 #[.pointer (some ⟨a, 0, none⟩)] w fun z w' => ∃ v, z = .returned v ∧ (v = .float .f64 y ∧ W.Rt w w' a s pZ eZ)) := fun a w h => (W.rFloat a s p1 e1 w h).mono fun z w' hh => by rw [hy] at hh; exact ⟨_, hh.1, rfl, hh.2⟩
  have HXL : Hid (x < 18446744073709551616) := by have := fltS_lt s pb eb; rw [hx] at this; exact this
  have HYL : Hid (y < 18446744073709551616) := by have := fltS_lt s p1 e1; rw [hy] at this; exact this
  have HKL : Hid (5 < 256) := hide (by decide)
  have HNF : Hid ((⟨5, false, [x, y], ta0, []⟩ : Ty).fl.length ≤ 1099511627776) := hide (by simp)
  have HFB : Hid (∀ b ∈ (⟨5, false, [x, y], ta0, []⟩ : Ty).fl, b < 18446744073709551616) := by
    intro b hb
    simp only [List.mem_cons, List.not_mem_nil, or_false] at hb
    rcases hb with rfl | rfl
    · exact unhide HXL
    · exact unhide HYL
  have HTA : Hid (∀ {w : World} {R a M : Nat} {fa : Option Addr} {n fc : Nat}, Tk u w R a M s pZ eZ 5 false fa n fc ta0 none 0 0 [x, y] → n = [x, y].length → TAt w (⟨5, false, [x, y], ta0, []⟩ : Ty) fa fc none 0) := fun {w R a M fa n fc} h hn => tat_fl h.own (unhide HFB) rfl hn (unhide HKL) (unhide HNF)
  have HTO0 : Hid (∀ (w : World) (fa : Option Addr) (n fc : Nat), n = [x, y].length → TAt w (⟨5, false, [x, y], ta0, []⟩ : Ty) fa fc none 0 → Calls Try.prog 52 #[tyV 5 false fa n fc ta0 none 0 0] w fun e w' => e = .returned (.string ⟨(toldM (⟨5, false, [x, y], ta0, []⟩ : Ty)).toArray⟩) ∧ Below w.heap.size w w') := fun w fa n fc hn h => tTold (⟨5, false, [x, y], ta0, []⟩ : Ty) (by simp) fa fc none 0 n 0 hn rfl w h
  have HSC := hide (str_beq (toldM (⟨5, false, [x, y], ta0, []⟩ : Ty)) s)
  have HOK0 : Hid (okT s (W.endE s.size pZ eZ) (⟨5, false, [x, y], ta0, []⟩ : Ty) = if W.endE s.size pZ eZ = 0 ∧ toldM (⟨5, false, [x, y], ta0, []⟩ : Ty) = s.data.toList then some (⟨5, false, [x, y], ta0, []⟩ : Ty) else none) := rfl
  generalize okT s (W.endE s.size pZ eZ) (⟨5, false, [x, y], ta0, []⟩ : Ty) = RES at *
  have HEE : Hid (∃ EE, EE = W.endE s.size pZ eZ) := ⟨_, rfl⟩
  generalize toldM (⟨5, false, [x, y], ta0, []⟩ : Ty) = TB at *
  generalize (⟨TB.toArray⟩ : ByteArray) = SB at *
  have HRR : Hid (∀ (w : World) a, W.Rd w a s pZ eZ → Calls Try.prog 72 #[.pointer (some ⟨a, 0, none⟩)] w fun x w' => x = .returned (.int .i64 (W.endE s.size pZ eZ)) ∧ ∃ n, w' = w.drewN n) := fun w a h => W.rEnd a s pZ eZ w h
  generalize W.endE s.size pZ eZ = EE at *
  obtain ⟨R, hR⟩ : ∃ R, R = u.heap.size := ⟨_, rfl⟩
  have HR := hide hR
  have hsz : ((s.size : Int) > 40) = False := by simp; omega
  have hsz' : ¬ (40 : Int) < (s.size : Int) := by omega
  clear hR hs hby hx hy
  by_cases he : EE = 0
  · subst he
    by_cases hc : TB = s.data.toList
    · have HOK : Hid (RES = some (⟨5, false, [x, y], ta0, []⟩ : Ty)) := by rw [unhide HOK0, if_pos ⟨rfl, hc⟩]; rfl
      have hcmp : (SB.toList == s.toList) = true := by rw [unhide HSC, decide_eq_true hc]
      clear hc
      go_enter Try.func43, Try.ntmps43
      go_wp2_with (first
          | ((with_reducible refine wpList_alloc_ty (by rfl) (by rfl) (some 2) (by rfl) R (unhide HR) ?_); intro W1 HX1 HB1 HS1; simp only [Act.put, List.setIfInBounds_toArray, List.set_cons_zero, List.set_cons_succ])
          | (go_at_call 66; refine (W.rNew s W1).mono ?_; rintro e W2 ⟨rfl, rfl⟩; have HRD2 := hide (W.Rd.new s W1 124 (by have := unhide HSZ; omega)); have HB2 : Hid (Below W1.heap.size W1 (W1.alloc (.cells #[.string s, .int .i64 0, .int .i64 0] 124))) := (Below.refl _ _).alloc (Nat.le_refl _) _; have HS2 : Hid ((W1.alloc (.cells #[.string s, .int .i64 0, .int .i64 0] 124)).heap.size = W1.heap.size + 1) := hide (by simp); generalize W1.alloc _ = W2 at *; obtain ⟨a, ha⟩ : ∃ a, a = W1.heap.size := ⟨_, rfl⟩; have HA := hide ha; rw [← ha] at HRD2 HS2 ⊢; clear ha)
          | (go_at_call 67; refine (unhide HBY a W2 (unhide HRD2)).mono ?_; rintro e W3 ⟨rfl, hr3⟩; have HRT3 := hide hr3; clear hr3; obtain ⟨M, hM⟩ : ∃ M, M = W3.heap.size := ⟨_, rfl⟩; have HM := hide hM; clear hM; have hbt := bTy 5)
          | ((with_reducible refine wpList_alloc_ty (by rfl) (by rfl) (some 5) (by rfl) M (unhide HM) ?_); intro W4 HX4 HB4 HS4; simp only [Act.put, List.setIfInBounds_toArray, List.set_cons_zero, List.set_cons_succ])
          | ((with_reducible refine wpList_store_ty (by rfl) (.tmp 5) (.tmp 14) (by rfl) M 5 false none 0 0 ta0 none 0 0 (by with_unfolding_all rfl) (by with_unfolding_all rfl) rfl (unhide HX4) ?_); intro W5 HX5 HE5 HS5 HO5; simp only [Act.put]; have HQ := hide (tk_start (unhide HR) (unhide HX1) (unhide HB1) (unhide HS1) (unhide HA) (unhide HB2) (unhide HS2) (unhide HRT3) (unhide HM) (unhide HB4) (unhide HX5) (unhide HE5)); clear HX1 HB1 HS1 HRD2 HB2 HS2 HRT3 HM HX4 HB4 HS4 HX5 HE5 HS5 HO5; have c0 := (unhide HQ).bt.c0)
          | fail)
      clear c0
      refine wp_region_last (fun v => Bt v M 5 false none 0 0 ta0 none 0 0) 7 hmix (unhide HQ).drew.bt fun hS => ?_
      have HQ0 : Hid (Tk u W5.drew R a M s pb eb 5 false none 0 0 ta0 none 0 0 []) := (unhide HQ).drew
      generalize W5.drew = Z0 at hS HQ0 ⊢
      refine wpAnyL_take 0 37 (.pointer (some ⟨M, 2, none⟩)) [] rfl rfl (by kernel_rfl) (by kernel_rfl) (by kernel_rfl) (by kernel_rfl) (by kernel_rfl) (fun _ _ _ h => h) (by rfl) (fun _ _ => by go_simp) hS ?_
      simp only [Act.put, List.setIfInBounds_toArray, List.set_cons_zero, List.set_cons_succ]
      refine wpAnyL_take 1 38 (.slice none 0 0) [] rfl rfl (by kernel_rfl) (by kernel_rfl) (by kernel_rfl) (by kernel_rfl) (by kernel_rfl) (fun _ _ _ h => h) (by rfl) (fun v hv => by have q2 := hv.c2; go_simp) hS ?_
      simp only [Act.put, List.setIfInBounds_toArray, List.set_cons_zero, List.set_cons_succ]
      refine wpAnyL_take 2 39 (.pointer (some ⟨a, 0, none⟩)) [] rfl rfl (by kernel_rfl) (by kernel_rfl) (by kernel_rfl) (by kernel_rfl) (by kernel_rfl) (fun _ _ _ h => h) (by rfl) (fun _ _ => by go_simp) hS ?_
      simp only [Act.put, List.setIfInBounds_toArray, List.set_cons_zero, List.set_cons_succ]
      refine wpAnyL_one (i := 3) (by kernel_rfl) rfl (by rfl) fun K hK => ?_
      refine wp_call_fn 70 _ _ (by rfl) #[.pointer (some ⟨a, 0, none⟩)] (by with_unfolding_all rfl) entRF (some 40) (by rfl) _ (unhide HFX a Z0 (unhide HQ0).rd) ?_
      rintro _ Z5 ⟨rfl, hr⟩
      have HQ5 := hide ((unhide HQ0).read hr)
      clear hr
      refine hK _ _ (fun _ => (unhide HQ5).bt) ?_
      clear hK K
      simp only [Act.put, List.setIfInBounds_toArray, List.set_cons_zero, List.set_cons_succ]
      refine wpAnyL_one (i := 4) (by kernel_rfl) rfl (by rfl) fun K hK => ?_
      refine wp_buildTo (by rfl) _ _ (by simp only [List.map_toArray, List.map_cons, List.map_nil]; exact bsF Z5 x) (some 41) (by rfl) ?_
      have HQ6 := hide ((unhide HQ5).belw ((Below.refl _ _).alloc (Nat.le_refl _) (.cells #[.float .f64 x] 36)))
      have HC6 := hide (one_cell Z5 (.float .f64 x) 36)
      generalize Z5.alloc (.cells #[.float .f64 x] 36) = Z6 at HQ6 HC6 ⊢
      generalize Z5.heap.size = G6 at HC6 ⊢
      refine hK _ _ (fun _ => (unhide HQ6).bt) ?_
      clear hK K
      simp only [Act.put, List.setIfInBounds_toArray, List.set_cons_zero, List.set_cons_succ]
      refine wpAnyL_one (i := 5) (by kernel_rfl) rfl (by rfl) fun K hK => ?_
      refine wp_putV elF (.tmp 38) (.tmp 41) (by rfl) (some 42) (by rfl) (M + 1) (flC []) (.float .f64 x) none 0 0 G6 0 1 (by rfl) (by rfl) (unhide HQ6).own (unhide HC6) rfl (by omega) (by unfold maxLen; omega) (by have := (unhide HQ6).bt.lt; omega) ?_
      intro fa' n' fc' Z7 HN7 HO7 _ HB7
      have HBT7 := hide ((unhide HQ6).bt.same ((unhide HB7).block M (by omega)))
      refine hK _ _ (fun _ => unhide HBT7) ?_
      clear hK K
      simp only [Act.put, List.setIfInBounds_toArray, List.set_cons_zero, List.set_cons_succ]
      refine wpAnyL_one (i := 6) (by kernel_rfl) rfl (by rfl) fun K hK => ?_
      refine wp_val (.pointer (some ⟨M, 2, none⟩)) (by go_simp) (some 43) (by rfl) ?_
      refine hK _ _ (fun _ => unhide HBT7) ?_
      clear hK K
      simp only [Act.put, List.setIfInBounds_toArray, List.set_cons_zero, List.set_cons_succ]
      refine wpAnyL_one (i := 7) (by kernel_rfl) rfl (by rfl) fun K hK => ?_
      refine wp_store_sl 28 (.tmp 43) (.tmp 42) (by rfl) (by rfl) M 2 fa' n' fc' (by rfl) (by rfl) ((unhide HBT7).there (by decide)) infoF ?_
      have HQ8 : Hid (Tk u (Z7.setCell ⟨M, 2, none⟩ (.slice fa' n' fc')) R a M s p1 e1 5 false fa' n' fc' ta0 none 0 0 [x]) := (unhide HQ6).grow (unhide HB7) (by have := unhide HO7; rw [show flC [] ++ [Value.float .f64 x] = flC [x] from rfl] at this; exact this)
      generalize Z7.setCell ⟨M, 2, none⟩ (.slice fa' n' fc') = Z8 at HQ8 ⊢
      refine hK _ _ (fun h => absurd rfl h) ?_
      clear hK K
      refine wpAnyL_done (by kernel_rfl) ?_ _
      clear HQ0 HQ5 HQ6 HC6 HO7 HB7 HBT7 hS
      have HN1 : Hid (n' = 1) := unhide HN7
      have HQX : Hid (Tk u Z8 R a M s p1 e1 5 false fa' 1 fc' ta0 none 0 0 [x]) := by have := unhide HQ8; rw [unhide HN1] at this; exact this
      obtain ⟨fa1, hfa1⟩ : ∃ f, f = fa' := ⟨_, rfl⟩
      obtain ⟨fc1, hfc1⟩ : ∃ f, f = fc' := ⟨_, rfl⟩
      rw [← hfa1, ← hfc1] at HQX
      obtain ⟨Y8, hY8⟩ : ∃ y, y = Z8 := ⟨_, rfl⟩
      rw [← hY8] at HQX ⊢
      clear hfa1 hfc1 hY8 HQ8 HN7 HN1
      go_wp2_with fail
      refine wp_region_last (fun v => Bt v M 5 false fa1 1 fc1 ta0 none 0 0) 7 hmix (unhide HQX).drew.bt fun hS => ?_
      have HQ0 : Hid (Tk u Y8.drew R a M s p1 e1 5 false fa1 1 fc1 ta0 none 0 0 [x]) := (unhide HQX).drew
      generalize Y8.drew = Z0 at hS HQ0 ⊢
      refine wpAnyL_take 0 44 (.pointer (some ⟨M, 2, none⟩)) [] rfl rfl (by kernel_rfl) (by kernel_rfl) (by kernel_rfl) (by kernel_rfl) (by kernel_rfl) (fun _ _ _ h => h) (by rfl) (fun _ _ => by go_simp) hS ?_
      simp only [Act.put, List.setIfInBounds_toArray, List.set_cons_zero, List.set_cons_succ]
      refine wpAnyL_take 1 45 (.slice fa1 1 fc1) [] rfl rfl (by kernel_rfl) (by kernel_rfl) (by kernel_rfl) (by kernel_rfl) (by kernel_rfl) (fun _ _ _ h => h) (by rfl) (fun v hv => by have q2 := hv.c2; go_simp) hS ?_
      simp only [Act.put, List.setIfInBounds_toArray, List.set_cons_zero, List.set_cons_succ]
      refine wpAnyL_take 2 46 (.pointer (some ⟨a, 0, none⟩)) [] rfl rfl (by kernel_rfl) (by kernel_rfl) (by kernel_rfl) (by kernel_rfl) (by kernel_rfl) (fun _ _ _ h => h) (by rfl) (fun _ _ => by go_simp) hS ?_
      simp only [Act.put, List.setIfInBounds_toArray, List.set_cons_zero, List.set_cons_succ]
      refine wpAnyL_one (i := 3) (by kernel_rfl) rfl (by rfl) fun K hK => ?_
      refine wp_call_fn 70 _ _ (by rfl) #[.pointer (some ⟨a, 0, none⟩)] (by with_unfolding_all rfl) entRF (some 47) (by rfl) _ (unhide HFY a Z0 (unhide HQ0).rd) ?_
      rintro _ Z5 ⟨rfl, hr⟩
      have HQ5 := hide ((unhide HQ0).read hr)
      clear hr
      refine hK _ _ (fun _ => (unhide HQ5).bt) ?_
      clear hK K
      simp only [Act.put, List.setIfInBounds_toArray, List.set_cons_zero, List.set_cons_succ]
      refine wpAnyL_one (i := 4) (by kernel_rfl) rfl (by rfl) fun K hK => ?_
      refine wp_buildTo (by rfl) _ _ (by simp only [List.map_toArray, List.map_cons, List.map_nil]; exact bsF Z5 y) (some 48) (by rfl) ?_
      have HQ6 := hide ((unhide HQ5).belw ((Below.refl _ _).alloc (Nat.le_refl _) (.cells #[.float .f64 y] 36)))
      have HC6 := hide (one_cell Z5 (.float .f64 y) 36)
      generalize Z5.alloc (.cells #[.float .f64 y] 36) = Z6 at HQ6 HC6 ⊢
      generalize Z5.heap.size = G6 at HC6 ⊢
      refine hK _ _ (fun _ => (unhide HQ6).bt) ?_
      clear hK K
      simp only [Act.put, List.setIfInBounds_toArray, List.set_cons_zero, List.set_cons_succ]
      refine wpAnyL_one (i := 5) (by kernel_rfl) rfl (by rfl) fun K hK => ?_
      refine wp_putV elF (.tmp 45) (.tmp 48) (by rfl) (some 49) (by rfl) (M + 1) (flC [x]) (.float .f64 y) fa1 1 fc1 G6 0 1 (by rfl) (by rfl) (unhide HQ6).own (unhide HC6) rfl (by omega) (by unfold maxLen; omega) (by have := (unhide HQ6).bt.lt; omega) ?_
      intro fa' n' fc' Z7 HN7 HO7 _ HB7
      have HBT7 := hide ((unhide HQ6).bt.same ((unhide HB7).block M (by omega)))
      refine hK _ _ (fun _ => unhide HBT7) ?_
      clear hK K
      simp only [Act.put, List.setIfInBounds_toArray, List.set_cons_zero, List.set_cons_succ]
      refine wpAnyL_one (i := 6) (by kernel_rfl) rfl (by rfl) fun K hK => ?_
      refine wp_val (.pointer (some ⟨M, 2, none⟩)) (by go_simp) (some 50) (by rfl) ?_
      refine hK _ _ (fun _ => unhide HBT7) ?_
      clear hK K
      simp only [Act.put, List.setIfInBounds_toArray, List.set_cons_zero, List.set_cons_succ]
      refine wpAnyL_one (i := 7) (by kernel_rfl) rfl (by rfl) fun K hK => ?_
      refine wp_store_sl 28 (.tmp 50) (.tmp 49) (by rfl) (by rfl) M 2 fa' n' fc' (by rfl) (by rfl) ((unhide HBT7).there (by decide)) infoF ?_
      have HQ8 : Hid (Tk u (Z7.setCell ⟨M, 2, none⟩ (.slice fa' n' fc')) R a M s pZ eZ 5 false fa' n' fc' ta0 none 0 0 [x, y]) := (unhide HQ6).grow (unhide HB7) (by have := unhide HO7; rw [show flC [x] ++ [Value.float .f64 y] = flC [x, y] from rfl] at this; exact this)
      generalize Z7.setCell ⟨M, 2, none⟩ (.slice fa' n' fc') = Z8 at HQ8 ⊢
      refine hK _ _ (fun h => absurd rfl h) ?_
      clear hK K
      refine wpAnyL_done (by kernel_rfl) ?_ _
      clear HQ0 HQ5 HQ6 HC6 HO7 HB7 HBT7 hS
      have HN8 : Hid (n' = 2) := unhide HN7
      clear HQX
      clear HN7 HQ
      go_wp2_with (first
          | (go_at_call 72; refine (unhide HRR Z8 a (unhide HQ8).rd).mono ?_; rintro e W9 ⟨rfl, cN, rfl⟩; have HQ9 := hide ((unhide HQ8).belw (belowDrewN (Below.refl _ _) cN)); generalize Z8.drewN cN = Z9 at *)
          | (refine wpList_load_ty_on (by rfl) (.tmp 5) (by rfl) (some 57) (by rfl) M (by rfl) (unhide HQ9).bt ?_; simp only [Act.put, List.setIfInBounds_toArray, List.set_cons_zero, List.set_cons_succ])
          | (go_at_call 52; refine (unhide HTO0 Z9 fa' n' fc' (unhide HN8) (unhide HTA (unhide HQ9) (unhide HN8))).mono ?_; rintro e Z10 ⟨rfl, hb10⟩; have HQ10 := hide ((unhide HQ9).belw hb10); clear hb10)
          | ((with_reducible refine wpList_load_ty (by rfl) (.tmp 5) (by rfl) (some 63) (by rfl) M (by with_unfolding_all rfl) (unhide HQ10).bt ?_); simp only [Act.put, List.setIfInBounds_toArray, List.set_cons_zero, List.set_cons_succ])
          | ((with_reducible refine wpList_store_ty (by rfl) (.tmp 2) (.tmp 63) (by rfl) R 5 false fa' n' fc' ta0 none 0 0 (by with_unfolding_all rfl) (by with_unfolding_all rfl) rfl (unhide HQ10).br ?_); intro Z11 HX11 HE11 HS11 HO11; simp only [Act.put])
          | fail)
      refine bodyPost_ret (results_ty_tmp rfl _ _ R 5 false fa' n' fc' ta0 none 0 0 rfl (unhide HX11)) rfl ?_
      rw [unhide HOK]
      refine ⟨_, rfl, fa', fc', none, 0, n', 0, rfl, unhide HN8, rfl, ?_, (by have := unhide HE11; rw [← unhide HR]; exact this _ _ (Nat.le_refl _) (by rw [unhide HR]; exact (unhide HQ10).bl)), (fun g o e => by have h1 := (own_lies (unhide HQ10).own).2.2.2 g o e; have h2 := (unhide HQ10).h1; have h3 := (unhide HQ10).h2; have h4 := (unhide HQ10).hR; omega), (fun g o e => by cases e), (fun _ => ⟨rfl, rfl⟩)⟩
      refine tat_fl (own_keep (unhide HQ10).own fun g hg => ?_) (unhide HFB) rfl (unhide HN8) (unhide HKL) (unhide HNF)
      refine unhide HO11 g ?_
      have := World.ownsRow.lt (unhide HQ10).own g hg
      have h1 := (unhide HQ10).h1
      have h2 := (unhide HQ10).h2
      omega
    · have HOK : Hid (RES = none) := by rw [unhide HOK0, if_neg (fun h => hc h.2)]; rfl
      have hcmp : (SB.toList == s.toList) = false := by rw [unhide HSC, decide_eq_false hc]
      clear hc
      go_enter Try.func43, Try.ntmps43
      go_wp2_with (first
          | ((with_reducible refine wpList_alloc_ty (by rfl) (by rfl) (some 2) (by rfl) R (unhide HR) ?_); intro W1 HX1 HB1 HS1; simp only [Act.put, List.setIfInBounds_toArray, List.set_cons_zero, List.set_cons_succ])
          | (go_at_call 66; refine (W.rNew s W1).mono ?_; rintro e W2 ⟨rfl, rfl⟩; have HRD2 := hide (W.Rd.new s W1 124 (by have := unhide HSZ; omega)); have HB2 : Hid (Below W1.heap.size W1 (W1.alloc (.cells #[.string s, .int .i64 0, .int .i64 0] 124))) := (Below.refl _ _).alloc (Nat.le_refl _) _; have HS2 : Hid ((W1.alloc (.cells #[.string s, .int .i64 0, .int .i64 0] 124)).heap.size = W1.heap.size + 1) := hide (by simp); generalize W1.alloc _ = W2 at *; obtain ⟨a, ha⟩ : ∃ a, a = W1.heap.size := ⟨_, rfl⟩; have HA := hide ha; rw [← ha] at HRD2 HS2 ⊢; clear ha)
          | (go_at_call 67; refine (unhide HBY a W2 (unhide HRD2)).mono ?_; rintro e W3 ⟨rfl, hr3⟩; have HRT3 := hide hr3; clear hr3; obtain ⟨M, hM⟩ : ∃ M, M = W3.heap.size := ⟨_, rfl⟩; have HM := hide hM; clear hM; have hbt := bTy 5)
          | ((with_reducible refine wpList_alloc_ty (by rfl) (by rfl) (some 5) (by rfl) M (unhide HM) ?_); intro W4 HX4 HB4 HS4; simp only [Act.put, List.setIfInBounds_toArray, List.set_cons_zero, List.set_cons_succ])
          | ((with_reducible refine wpList_store_ty (by rfl) (.tmp 5) (.tmp 14) (by rfl) M 5 false none 0 0 ta0 none 0 0 (by with_unfolding_all rfl) (by with_unfolding_all rfl) rfl (unhide HX4) ?_); intro W5 HX5 HE5 HS5 HO5; simp only [Act.put]; have HQ := hide (tk_start (unhide HR) (unhide HX1) (unhide HB1) (unhide HS1) (unhide HA) (unhide HB2) (unhide HS2) (unhide HRT3) (unhide HM) (unhide HB4) (unhide HX5) (unhide HE5)); clear HX1 HB1 HS1 HRD2 HB2 HS2 HRT3 HM HX4 HB4 HS4 HX5 HE5 HS5 HO5; have c0 := (unhide HQ).bt.c0)
          | fail)
      clear c0
      refine wp_region_last (fun v => Bt v M 5 false none 0 0 ta0 none 0 0) 7 hmix (unhide HQ).drew.bt fun hS => ?_
      have HQ0 : Hid (Tk u W5.drew R a M s pb eb 5 false none 0 0 ta0 none 0 0 []) := (unhide HQ).drew
      generalize W5.drew = Z0 at hS HQ0 ⊢
      refine wpAnyL_take 0 37 (.pointer (some ⟨M, 2, none⟩)) [] rfl rfl (by kernel_rfl) (by kernel_rfl) (by kernel_rfl) (by kernel_rfl) (by kernel_rfl) (fun _ _ _ h => h) (by rfl) (fun _ _ => by go_simp) hS ?_
      simp only [Act.put, List.setIfInBounds_toArray, List.set_cons_zero, List.set_cons_succ]
      refine wpAnyL_take 1 38 (.slice none 0 0) [] rfl rfl (by kernel_rfl) (by kernel_rfl) (by kernel_rfl) (by kernel_rfl) (by kernel_rfl) (fun _ _ _ h => h) (by rfl) (fun v hv => by have q2 := hv.c2; go_simp) hS ?_
      simp only [Act.put, List.setIfInBounds_toArray, List.set_cons_zero, List.set_cons_succ]
      refine wpAnyL_take 2 39 (.pointer (some ⟨a, 0, none⟩)) [] rfl rfl (by kernel_rfl) (by kernel_rfl) (by kernel_rfl) (by kernel_rfl) (by kernel_rfl) (fun _ _ _ h => h) (by rfl) (fun _ _ => by go_simp) hS ?_
      simp only [Act.put, List.setIfInBounds_toArray, List.set_cons_zero, List.set_cons_succ]
      refine wpAnyL_one (i := 3) (by kernel_rfl) rfl (by rfl) fun K hK => ?_
      refine wp_call_fn 70 _ _ (by rfl) #[.pointer (some ⟨a, 0, none⟩)] (by with_unfolding_all rfl) entRF (some 40) (by rfl) _ (unhide HFX a Z0 (unhide HQ0).rd) ?_
      rintro _ Z5 ⟨rfl, hr⟩
      have HQ5 := hide ((unhide HQ0).read hr)
      clear hr
      refine hK _ _ (fun _ => (unhide HQ5).bt) ?_
      clear hK K
      simp only [Act.put, List.setIfInBounds_toArray, List.set_cons_zero, List.set_cons_succ]
      refine wpAnyL_one (i := 4) (by kernel_rfl) rfl (by rfl) fun K hK => ?_
      refine wp_buildTo (by rfl) _ _ (by simp only [List.map_toArray, List.map_cons, List.map_nil]; exact bsF Z5 x) (some 41) (by rfl) ?_
      have HQ6 := hide ((unhide HQ5).belw ((Below.refl _ _).alloc (Nat.le_refl _) (.cells #[.float .f64 x] 36)))
      have HC6 := hide (one_cell Z5 (.float .f64 x) 36)
      generalize Z5.alloc (.cells #[.float .f64 x] 36) = Z6 at HQ6 HC6 ⊢
      generalize Z5.heap.size = G6 at HC6 ⊢
      refine hK _ _ (fun _ => (unhide HQ6).bt) ?_
      clear hK K
      simp only [Act.put, List.setIfInBounds_toArray, List.set_cons_zero, List.set_cons_succ]
      refine wpAnyL_one (i := 5) (by kernel_rfl) rfl (by rfl) fun K hK => ?_
      refine wp_putV elF (.tmp 38) (.tmp 41) (by rfl) (some 42) (by rfl) (M + 1) (flC []) (.float .f64 x) none 0 0 G6 0 1 (by rfl) (by rfl) (unhide HQ6).own (unhide HC6) rfl (by omega) (by unfold maxLen; omega) (by have := (unhide HQ6).bt.lt; omega) ?_
      intro fa' n' fc' Z7 HN7 HO7 _ HB7
      have HBT7 := hide ((unhide HQ6).bt.same ((unhide HB7).block M (by omega)))
      refine hK _ _ (fun _ => unhide HBT7) ?_
      clear hK K
      simp only [Act.put, List.setIfInBounds_toArray, List.set_cons_zero, List.set_cons_succ]
      refine wpAnyL_one (i := 6) (by kernel_rfl) rfl (by rfl) fun K hK => ?_
      refine wp_val (.pointer (some ⟨M, 2, none⟩)) (by go_simp) (some 43) (by rfl) ?_
      refine hK _ _ (fun _ => unhide HBT7) ?_
      clear hK K
      simp only [Act.put, List.setIfInBounds_toArray, List.set_cons_zero, List.set_cons_succ]
      refine wpAnyL_one (i := 7) (by kernel_rfl) rfl (by rfl) fun K hK => ?_
      refine wp_store_sl 28 (.tmp 43) (.tmp 42) (by rfl) (by rfl) M 2 fa' n' fc' (by rfl) (by rfl) ((unhide HBT7).there (by decide)) infoF ?_
      have HQ8 : Hid (Tk u (Z7.setCell ⟨M, 2, none⟩ (.slice fa' n' fc')) R a M s p1 e1 5 false fa' n' fc' ta0 none 0 0 [x]) := (unhide HQ6).grow (unhide HB7) (by have := unhide HO7; rw [show flC [] ++ [Value.float .f64 x] = flC [x] from rfl] at this; exact this)
      generalize Z7.setCell ⟨M, 2, none⟩ (.slice fa' n' fc') = Z8 at HQ8 ⊢
      refine hK _ _ (fun h => absurd rfl h) ?_
      clear hK K
      refine wpAnyL_done (by kernel_rfl) ?_ _
      clear HQ0 HQ5 HQ6 HC6 HO7 HB7 HBT7 hS
      have HN1 : Hid (n' = 1) := unhide HN7
      have HQX : Hid (Tk u Z8 R a M s p1 e1 5 false fa' 1 fc' ta0 none 0 0 [x]) := by have := unhide HQ8; rw [unhide HN1] at this; exact this
      obtain ⟨fa1, hfa1⟩ : ∃ f, f = fa' := ⟨_, rfl⟩
      obtain ⟨fc1, hfc1⟩ : ∃ f, f = fc' := ⟨_, rfl⟩
      rw [← hfa1, ← hfc1] at HQX
      obtain ⟨Y8, hY8⟩ : ∃ y, y = Z8 := ⟨_, rfl⟩
      rw [← hY8] at HQX ⊢
      clear hfa1 hfc1 hY8 HQ8 HN7 HN1
      go_wp2_with fail
      refine wp_region_last (fun v => Bt v M 5 false fa1 1 fc1 ta0 none 0 0) 7 hmix (unhide HQX).drew.bt fun hS => ?_
      have HQ0 : Hid (Tk u Y8.drew R a M s p1 e1 5 false fa1 1 fc1 ta0 none 0 0 [x]) := (unhide HQX).drew
      generalize Y8.drew = Z0 at hS HQ0 ⊢
      refine wpAnyL_take 0 44 (.pointer (some ⟨M, 2, none⟩)) [] rfl rfl (by kernel_rfl) (by kernel_rfl) (by kernel_rfl) (by kernel_rfl) (by kernel_rfl) (fun _ _ _ h => h) (by rfl) (fun _ _ => by go_simp) hS ?_
      simp only [Act.put, List.setIfInBounds_toArray, List.set_cons_zero, List.set_cons_succ]
      refine wpAnyL_take 1 45 (.slice fa1 1 fc1) [] rfl rfl (by kernel_rfl) (by kernel_rfl) (by kernel_rfl) (by kernel_rfl) (by kernel_rfl) (fun _ _ _ h => h) (by rfl) (fun v hv => by have q2 := hv.c2; go_simp) hS ?_
      simp only [Act.put, List.setIfInBounds_toArray, List.set_cons_zero, List.set_cons_succ]
      refine wpAnyL_take 2 46 (.pointer (some ⟨a, 0, none⟩)) [] rfl rfl (by kernel_rfl) (by kernel_rfl) (by kernel_rfl) (by kernel_rfl) (by kernel_rfl) (fun _ _ _ h => h) (by rfl) (fun _ _ => by go_simp) hS ?_
      simp only [Act.put, List.setIfInBounds_toArray, List.set_cons_zero, List.set_cons_succ]
      refine wpAnyL_one (i := 3) (by kernel_rfl) rfl (by rfl) fun K hK => ?_
      refine wp_call_fn 70 _ _ (by rfl) #[.pointer (some ⟨a, 0, none⟩)] (by with_unfolding_all rfl) entRF (some 47) (by rfl) _ (unhide HFY a Z0 (unhide HQ0).rd) ?_
      rintro _ Z5 ⟨rfl, hr⟩
      have HQ5 := hide ((unhide HQ0).read hr)
      clear hr
      refine hK _ _ (fun _ => (unhide HQ5).bt) ?_
      clear hK K
      simp only [Act.put, List.setIfInBounds_toArray, List.set_cons_zero, List.set_cons_succ]
      refine wpAnyL_one (i := 4) (by kernel_rfl) rfl (by rfl) fun K hK => ?_
      refine wp_buildTo (by rfl) _ _ (by simp only [List.map_toArray, List.map_cons, List.map_nil]; exact bsF Z5 y) (some 48) (by rfl) ?_
      have HQ6 := hide ((unhide HQ5).belw ((Below.refl _ _).alloc (Nat.le_refl _) (.cells #[.float .f64 y] 36)))
      have HC6 := hide (one_cell Z5 (.float .f64 y) 36)
      generalize Z5.alloc (.cells #[.float .f64 y] 36) = Z6 at HQ6 HC6 ⊢
      generalize Z5.heap.size = G6 at HC6 ⊢
      refine hK _ _ (fun _ => (unhide HQ6).bt) ?_
      clear hK K
      simp only [Act.put, List.setIfInBounds_toArray, List.set_cons_zero, List.set_cons_succ]
      refine wpAnyL_one (i := 5) (by kernel_rfl) rfl (by rfl) fun K hK => ?_
      refine wp_putV elF (.tmp 45) (.tmp 48) (by rfl) (some 49) (by rfl) (M + 1) (flC [x]) (.float .f64 y) fa1 1 fc1 G6 0 1 (by rfl) (by rfl) (unhide HQ6).own (unhide HC6) rfl (by omega) (by unfold maxLen; omega) (by have := (unhide HQ6).bt.lt; omega) ?_
      intro fa' n' fc' Z7 HN7 HO7 _ HB7
      have HBT7 := hide ((unhide HQ6).bt.same ((unhide HB7).block M (by omega)))
      refine hK _ _ (fun _ => unhide HBT7) ?_
      clear hK K
      simp only [Act.put, List.setIfInBounds_toArray, List.set_cons_zero, List.set_cons_succ]
      refine wpAnyL_one (i := 6) (by kernel_rfl) rfl (by rfl) fun K hK => ?_
      refine wp_val (.pointer (some ⟨M, 2, none⟩)) (by go_simp) (some 50) (by rfl) ?_
      refine hK _ _ (fun _ => unhide HBT7) ?_
      clear hK K
      simp only [Act.put, List.setIfInBounds_toArray, List.set_cons_zero, List.set_cons_succ]
      refine wpAnyL_one (i := 7) (by kernel_rfl) rfl (by rfl) fun K hK => ?_
      refine wp_store_sl 28 (.tmp 50) (.tmp 49) (by rfl) (by rfl) M 2 fa' n' fc' (by rfl) (by rfl) ((unhide HBT7).there (by decide)) infoF ?_
      have HQ8 : Hid (Tk u (Z7.setCell ⟨M, 2, none⟩ (.slice fa' n' fc')) R a M s pZ eZ 5 false fa' n' fc' ta0 none 0 0 [x, y]) := (unhide HQ6).grow (unhide HB7) (by have := unhide HO7; rw [show flC [x] ++ [Value.float .f64 y] = flC [x, y] from rfl] at this; exact this)
      generalize Z7.setCell ⟨M, 2, none⟩ (.slice fa' n' fc') = Z8 at HQ8 ⊢
      refine hK _ _ (fun h => absurd rfl h) ?_
      clear hK K
      refine wpAnyL_done (by kernel_rfl) ?_ _
      clear HQ0 HQ5 HQ6 HC6 HO7 HB7 HBT7 hS
      have HN8 : Hid (n' = 2) := unhide HN7
      clear HQX
      clear HN7 HQ
      go_wp2_with (first
          | (go_at_call 72; refine (unhide HRR Z8 a (unhide HQ8).rd).mono ?_; rintro e W9 ⟨rfl, cN, rfl⟩; have HQ9 := hide ((unhide HQ8).belw (belowDrewN (Below.refl _ _) cN)); generalize Z8.drewN cN = Z9 at *)
          | (refine wpList_load_ty_on (by rfl) (.tmp 5) (by rfl) (some 57) (by rfl) M (by rfl) (unhide HQ9).bt ?_; simp only [Act.put, List.setIfInBounds_toArray, List.set_cons_zero, List.set_cons_succ])
          | (go_at_call 52; refine (unhide HTO0 Z9 fa' n' fc' (unhide HN8) (unhide HTA (unhide HQ9) (unhide HN8))).mono ?_; rintro e Z10 ⟨rfl, hb10⟩; have HQ10 := hide ((unhide HQ9).belw hb10); clear hb10)
          | ((with_reducible refine wpList_store_ty (by rfl) (.tmp 2) (.tmp 62) (by rfl) R 0 false none 0 0 ta0 none 0 0 (by with_unfolding_all rfl) (by with_unfolding_all rfl) rfl (unhide HQ10).br ?_); intro Z11 HX11 HE11 HS11 HO11; simp only [Act.put])
          | fail)
      refine bodyPost_ret (results_ty_tmp rfl _ _ R 0 false none 0 0 ta0 none 0 0 rfl (unhide HX11)) rfl ?_
      rw [unhide HOK]
      exact ⟨_, rfl, rfl, (by have := unhide HE11; rw [← unhide HR]; exact this _ _ (Nat.le_refl _) (by rw [unhide HR]; exact (unhide HQ10).bl))⟩
  · have HOK : Hid (RES = none) := by rw [unhide HOK0, if_neg (fun h => he h.1)]; rfl
    have heb : (EE == 0) = false := by simpa using he
    have heb2 : (EE != 0) = true := by simpa using he
    clear he
    go_enter Try.func43, Try.ntmps43
    go_wp2_with (first
        | ((with_reducible refine wpList_alloc_ty (by rfl) (by rfl) (some 2) (by rfl) R (unhide HR) ?_); intro W1 HX1 HB1 HS1; simp only [Act.put, List.setIfInBounds_toArray, List.set_cons_zero, List.set_cons_succ])
        | (go_at_call 66; refine (W.rNew s W1).mono ?_; rintro e W2 ⟨rfl, rfl⟩; have HRD2 := hide (W.Rd.new s W1 124 (by have := unhide HSZ; omega)); have HB2 : Hid (Below W1.heap.size W1 (W1.alloc (.cells #[.string s, .int .i64 0, .int .i64 0] 124))) := (Below.refl _ _).alloc (Nat.le_refl _) _; have HS2 : Hid ((W1.alloc (.cells #[.string s, .int .i64 0, .int .i64 0] 124)).heap.size = W1.heap.size + 1) := hide (by simp); generalize W1.alloc _ = W2 at *; obtain ⟨a, ha⟩ : ∃ a, a = W1.heap.size := ⟨_, rfl⟩; have HA := hide ha; rw [← ha] at HRD2 HS2 ⊢; clear ha)
        | (go_at_call 67; refine (unhide HBY a W2 (unhide HRD2)).mono ?_; rintro e W3 ⟨rfl, hr3⟩; have HRT3 := hide hr3; clear hr3; obtain ⟨M, hM⟩ : ∃ M, M = W3.heap.size := ⟨_, rfl⟩; have HM := hide hM; clear hM; have hbt := bTy 5)
        | ((with_reducible refine wpList_alloc_ty (by rfl) (by rfl) (some 5) (by rfl) M (unhide HM) ?_); intro W4 HX4 HB4 HS4; simp only [Act.put, List.setIfInBounds_toArray, List.set_cons_zero, List.set_cons_succ])
        | ((with_reducible refine wpList_store_ty (by rfl) (.tmp 5) (.tmp 14) (by rfl) M 5 false none 0 0 ta0 none 0 0 (by with_unfolding_all rfl) (by with_unfolding_all rfl) rfl (unhide HX4) ?_); intro W5 HX5 HE5 HS5 HO5; simp only [Act.put]; have HQ := hide (tk_start (unhide HR) (unhide HX1) (unhide HB1) (unhide HS1) (unhide HA) (unhide HB2) (unhide HS2) (unhide HRT3) (unhide HM) (unhide HB4) (unhide HX5) (unhide HE5)); clear HX1 HB1 HS1 HRD2 HB2 HS2 HRT3 HM HX4 HB4 HS4 HX5 HE5 HS5 HO5; have c0 := (unhide HQ).bt.c0)
        | fail)
    clear c0
    refine wp_region_last (fun v => Bt v M 5 false none 0 0 ta0 none 0 0) 7 hmix (unhide HQ).drew.bt fun hS => ?_
    have HQ0 : Hid (Tk u W5.drew R a M s pb eb 5 false none 0 0 ta0 none 0 0 []) := (unhide HQ).drew
    generalize W5.drew = Z0 at hS HQ0 ⊢
    refine wpAnyL_take 0 37 (.pointer (some ⟨M, 2, none⟩)) [] rfl rfl (by kernel_rfl) (by kernel_rfl) (by kernel_rfl) (by kernel_rfl) (by kernel_rfl) (fun _ _ _ h => h) (by rfl) (fun _ _ => by go_simp) hS ?_
    simp only [Act.put, List.setIfInBounds_toArray, List.set_cons_zero, List.set_cons_succ]
    refine wpAnyL_take 1 38 (.slice none 0 0) [] rfl rfl (by kernel_rfl) (by kernel_rfl) (by kernel_rfl) (by kernel_rfl) (by kernel_rfl) (fun _ _ _ h => h) (by rfl) (fun v hv => by have q2 := hv.c2; go_simp) hS ?_
    simp only [Act.put, List.setIfInBounds_toArray, List.set_cons_zero, List.set_cons_succ]
    refine wpAnyL_take 2 39 (.pointer (some ⟨a, 0, none⟩)) [] rfl rfl (by kernel_rfl) (by kernel_rfl) (by kernel_rfl) (by kernel_rfl) (by kernel_rfl) (fun _ _ _ h => h) (by rfl) (fun _ _ => by go_simp) hS ?_
    simp only [Act.put, List.setIfInBounds_toArray, List.set_cons_zero, List.set_cons_succ]
    refine wpAnyL_one (i := 3) (by kernel_rfl) rfl (by rfl) fun K hK => ?_
    refine wp_call_fn 70 _ _ (by rfl) #[.pointer (some ⟨a, 0, none⟩)] (by with_unfolding_all rfl) entRF (some 40) (by rfl) _ (unhide HFX a Z0 (unhide HQ0).rd) ?_
    rintro _ Z5 ⟨rfl, hr⟩
    have HQ5 := hide ((unhide HQ0).read hr)
    clear hr
    refine hK _ _ (fun _ => (unhide HQ5).bt) ?_
    clear hK K
    simp only [Act.put, List.setIfInBounds_toArray, List.set_cons_zero, List.set_cons_succ]
    refine wpAnyL_one (i := 4) (by kernel_rfl) rfl (by rfl) fun K hK => ?_
    refine wp_buildTo (by rfl) _ _ (by simp only [List.map_toArray, List.map_cons, List.map_nil]; exact bsF Z5 x) (some 41) (by rfl) ?_
    have HQ6 := hide ((unhide HQ5).belw ((Below.refl _ _).alloc (Nat.le_refl _) (.cells #[.float .f64 x] 36)))
    have HC6 := hide (one_cell Z5 (.float .f64 x) 36)
    generalize Z5.alloc (.cells #[.float .f64 x] 36) = Z6 at HQ6 HC6 ⊢
    generalize Z5.heap.size = G6 at HC6 ⊢
    refine hK _ _ (fun _ => (unhide HQ6).bt) ?_
    clear hK K
    simp only [Act.put, List.setIfInBounds_toArray, List.set_cons_zero, List.set_cons_succ]
    refine wpAnyL_one (i := 5) (by kernel_rfl) rfl (by rfl) fun K hK => ?_
    refine wp_putV elF (.tmp 38) (.tmp 41) (by rfl) (some 42) (by rfl) (M + 1) (flC []) (.float .f64 x) none 0 0 G6 0 1 (by rfl) (by rfl) (unhide HQ6).own (unhide HC6) rfl (by omega) (by unfold maxLen; omega) (by have := (unhide HQ6).bt.lt; omega) ?_
    intro fa' n' fc' Z7 HN7 HO7 _ HB7
    have HBT7 := hide ((unhide HQ6).bt.same ((unhide HB7).block M (by omega)))
    refine hK _ _ (fun _ => unhide HBT7) ?_
    clear hK K
    simp only [Act.put, List.setIfInBounds_toArray, List.set_cons_zero, List.set_cons_succ]
    refine wpAnyL_one (i := 6) (by kernel_rfl) rfl (by rfl) fun K hK => ?_
    refine wp_val (.pointer (some ⟨M, 2, none⟩)) (by go_simp) (some 43) (by rfl) ?_
    refine hK _ _ (fun _ => unhide HBT7) ?_
    clear hK K
    simp only [Act.put, List.setIfInBounds_toArray, List.set_cons_zero, List.set_cons_succ]
    refine wpAnyL_one (i := 7) (by kernel_rfl) rfl (by rfl) fun K hK => ?_
    refine wp_store_sl 28 (.tmp 43) (.tmp 42) (by rfl) (by rfl) M 2 fa' n' fc' (by rfl) (by rfl) ((unhide HBT7).there (by decide)) infoF ?_
    have HQ8 : Hid (Tk u (Z7.setCell ⟨M, 2, none⟩ (.slice fa' n' fc')) R a M s p1 e1 5 false fa' n' fc' ta0 none 0 0 [x]) := (unhide HQ6).grow (unhide HB7) (by have := unhide HO7; rw [show flC [] ++ [Value.float .f64 x] = flC [x] from rfl] at this; exact this)
    generalize Z7.setCell ⟨M, 2, none⟩ (.slice fa' n' fc') = Z8 at HQ8 ⊢
    refine hK _ _ (fun h => absurd rfl h) ?_
    clear hK K
    refine wpAnyL_done (by kernel_rfl) ?_ _
    clear HQ0 HQ5 HQ6 HC6 HO7 HB7 HBT7 hS
    have HN1 : Hid (n' = 1) := unhide HN7
    have HQX : Hid (Tk u Z8 R a M s p1 e1 5 false fa' 1 fc' ta0 none 0 0 [x]) := by have := unhide HQ8; rw [unhide HN1] at this; exact this
    obtain ⟨fa1, hfa1⟩ : ∃ f, f = fa' := ⟨_, rfl⟩
    obtain ⟨fc1, hfc1⟩ : ∃ f, f = fc' := ⟨_, rfl⟩
    rw [← hfa1, ← hfc1] at HQX
    obtain ⟨Y8, hY8⟩ : ∃ y, y = Z8 := ⟨_, rfl⟩
    rw [← hY8] at HQX ⊢
    clear hfa1 hfc1 hY8 HQ8 HN7 HN1
    go_wp2_with fail
    refine wp_region_last (fun v => Bt v M 5 false fa1 1 fc1 ta0 none 0 0) 7 hmix (unhide HQX).drew.bt fun hS => ?_
    have HQ0 : Hid (Tk u Y8.drew R a M s p1 e1 5 false fa1 1 fc1 ta0 none 0 0 [x]) := (unhide HQX).drew
    generalize Y8.drew = Z0 at hS HQ0 ⊢
    refine wpAnyL_take 0 44 (.pointer (some ⟨M, 2, none⟩)) [] rfl rfl (by kernel_rfl) (by kernel_rfl) (by kernel_rfl) (by kernel_rfl) (by kernel_rfl) (fun _ _ _ h => h) (by rfl) (fun _ _ => by go_simp) hS ?_
    simp only [Act.put, List.setIfInBounds_toArray, List.set_cons_zero, List.set_cons_succ]
    refine wpAnyL_take 1 45 (.slice fa1 1 fc1) [] rfl rfl (by kernel_rfl) (by kernel_rfl) (by kernel_rfl) (by kernel_rfl) (by kernel_rfl) (fun _ _ _ h => h) (by rfl) (fun v hv => by have q2 := hv.c2; go_simp) hS ?_
    simp only [Act.put, List.setIfInBounds_toArray, List.set_cons_zero, List.set_cons_succ]
    refine wpAnyL_take 2 46 (.pointer (some ⟨a, 0, none⟩)) [] rfl rfl (by kernel_rfl) (by kernel_rfl) (by kernel_rfl) (by kernel_rfl) (by kernel_rfl) (fun _ _ _ h => h) (by rfl) (fun _ _ => by go_simp) hS ?_
    simp only [Act.put, List.setIfInBounds_toArray, List.set_cons_zero, List.set_cons_succ]
    refine wpAnyL_one (i := 3) (by kernel_rfl) rfl (by rfl) fun K hK => ?_
    refine wp_call_fn 70 _ _ (by rfl) #[.pointer (some ⟨a, 0, none⟩)] (by with_unfolding_all rfl) entRF (some 47) (by rfl) _ (unhide HFY a Z0 (unhide HQ0).rd) ?_
    rintro _ Z5 ⟨rfl, hr⟩
    have HQ5 := hide ((unhide HQ0).read hr)
    clear hr
    refine hK _ _ (fun _ => (unhide HQ5).bt) ?_
    clear hK K
    simp only [Act.put, List.setIfInBounds_toArray, List.set_cons_zero, List.set_cons_succ]
    refine wpAnyL_one (i := 4) (by kernel_rfl) rfl (by rfl) fun K hK => ?_
    refine wp_buildTo (by rfl) _ _ (by simp only [List.map_toArray, List.map_cons, List.map_nil]; exact bsF Z5 y) (some 48) (by rfl) ?_
    have HQ6 := hide ((unhide HQ5).belw ((Below.refl _ _).alloc (Nat.le_refl _) (.cells #[.float .f64 y] 36)))
    have HC6 := hide (one_cell Z5 (.float .f64 y) 36)
    generalize Z5.alloc (.cells #[.float .f64 y] 36) = Z6 at HQ6 HC6 ⊢
    generalize Z5.heap.size = G6 at HC6 ⊢
    refine hK _ _ (fun _ => (unhide HQ6).bt) ?_
    clear hK K
    simp only [Act.put, List.setIfInBounds_toArray, List.set_cons_zero, List.set_cons_succ]
    refine wpAnyL_one (i := 5) (by kernel_rfl) rfl (by rfl) fun K hK => ?_
    refine wp_putV elF (.tmp 45) (.tmp 48) (by rfl) (some 49) (by rfl) (M + 1) (flC [x]) (.float .f64 y) fa1 1 fc1 G6 0 1 (by rfl) (by rfl) (unhide HQ6).own (unhide HC6) rfl (by omega) (by unfold maxLen; omega) (by have := (unhide HQ6).bt.lt; omega) ?_
    intro fa' n' fc' Z7 HN7 HO7 _ HB7
    have HBT7 := hide ((unhide HQ6).bt.same ((unhide HB7).block M (by omega)))
    refine hK _ _ (fun _ => unhide HBT7) ?_
    clear hK K
    simp only [Act.put, List.setIfInBounds_toArray, List.set_cons_zero, List.set_cons_succ]
    refine wpAnyL_one (i := 6) (by kernel_rfl) rfl (by rfl) fun K hK => ?_
    refine wp_val (.pointer (some ⟨M, 2, none⟩)) (by go_simp) (some 50) (by rfl) ?_
    refine hK _ _ (fun _ => unhide HBT7) ?_
    clear hK K
    simp only [Act.put, List.setIfInBounds_toArray, List.set_cons_zero, List.set_cons_succ]
    refine wpAnyL_one (i := 7) (by kernel_rfl) rfl (by rfl) fun K hK => ?_
    refine wp_store_sl 28 (.tmp 50) (.tmp 49) (by rfl) (by rfl) M 2 fa' n' fc' (by rfl) (by rfl) ((unhide HBT7).there (by decide)) infoF ?_
    have HQ8 : Hid (Tk u (Z7.setCell ⟨M, 2, none⟩ (.slice fa' n' fc')) R a M s pZ eZ 5 false fa' n' fc' ta0 none 0 0 [x, y]) := (unhide HQ6).grow (unhide HB7) (by have := unhide HO7; rw [show flC [x] ++ [Value.float .f64 y] = flC [x, y] from rfl] at this; exact this)
    generalize Z7.setCell ⟨M, 2, none⟩ (.slice fa' n' fc') = Z8 at HQ8 ⊢
    refine hK _ _ (fun h => absurd rfl h) ?_
    clear hK K
    refine wpAnyL_done (by kernel_rfl) ?_ _
    clear HQ0 HQ5 HQ6 HC6 HO7 HB7 HBT7 hS
    have HN8 : Hid (n' = 2) := unhide HN7
    clear HQX
    clear HN7 HQ
    go_wp2_with (first
        | (go_at_call 72; refine (unhide HRR Z8 a (unhide HQ8).rd).mono ?_; rintro e W9 ⟨rfl, cN, rfl⟩; have HQ9 := hide ((unhide HQ8).belw (belowDrewN (Below.refl _ _) cN)); generalize Z8.drewN cN = Z9 at *)
        | (refine wpList_load_ty_on (by rfl) (.tmp 5) (by rfl) (some 57) (by rfl) M (by rfl) (unhide HQ9).bt ?_; simp only [Act.put, List.setIfInBounds_toArray, List.set_cons_zero, List.set_cons_succ])
        | (go_at_call 52; refine (unhide HTO0 Z9 fa' n' fc' (unhide HN8) (unhide HTA (unhide HQ9) (unhide HN8))).mono ?_; rintro e Z10 ⟨rfl, hb10⟩; have HQ10 := hide ((unhide HQ9).belw hb10); clear hb10)
        | ((with_reducible refine wpList_store_ty (by rfl) (.tmp 2) (.tmp 62) (by rfl) R 0 false none 0 0 ta0 none 0 0 (by with_unfolding_all rfl) (by with_unfolding_all rfl) rfl (unhide HQ9).br ?_); intro Z11 HX11 HE11 HS11 HO11; simp only [Act.put])
        | fail)
    refine bodyPost_ret (results_ty_tmp rfl _ _ R 0 false none 0 0 ta0 none 0 0 rfl (unhide HX11)) rfl ?_
    rw [unhide HOK]
    exact ⟨_, rfl, rfl, (by have := unhide HE11; rw [← unhide HR]; exact this _ _ (Nat.le_refl _) (by rw [unhide HR]; exact (unhide HQ9).bl))⟩
end Go.Proofs.Ytpepgealeanecaa
