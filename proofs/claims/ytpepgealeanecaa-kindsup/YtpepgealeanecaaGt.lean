/- A tally, taken. -/
import Derived.Test.YtpepgealeanecaaGs
namespace Go.Proofs.Ytpepgealeanecaa
open Go.RowKit Go.Lib
/-- what a round takes -/
def tlN (s : ByteArray) (p : Nat) (e : Int) (ta : List Nat) : List Nat × Nat × Int :=
  (setT ta ((W.fixS s p e 1).1 % 256) ((W.fixS s (W.fixS s p e 1).2.1 (W.fixS s p e 1).2.2 2).1 % 65536) ((W.fixS s (W.fixS s (W.fixS s p e 1).2.1 (W.fixS s p e 1).2.2 2).2.1 (W.fixS s (W.fixS s p e 1).2.1 (W.fixS s p e 1).2.2 2).2.2 2).1 % 65536),
    (W.fixS s (W.fixS s (W.fixS s p e 1).2.1 (W.fixS s p e 1).2.2 2).2.1 (W.fixS s (W.fixS s p e 1).2.1 (W.fixS s p e 1).2.2 2).2.2 2).2)
/-- counts, as they are taken -/
def tlF (s : ByteArray) : Nat → Nat → Int → List Nat → List Nat × Nat × Int
  | 0, p, e, ta => (ta, p, e)
  | f + 1, p, e, ta => if p < s.size ∧ e = 0 then tlF s f (tlN s p e ta).2.1 (tlN s p e ta).2.2 (tlN s p e ta).1 else (ta, p, e)
theorem tlF_stop {s : ByteArray} {f p : Nat} {e : Int} {ta : List Nat} (h : ¬ (p < s.size ∧ e = 0)) : tlF s f p e ta = (ta, p, e) := by
  cases f with
  | zero => rfl
  | succ f => rw [tlF, if_neg h]
theorem fixS_mono (s : ByteArray) (p : Nat) (e n : Int) : p ≤ (W.fixS s p e n).2.1 ∧ ((W.fixS s p e n).2.2 = 0 → e = 0 ∧ 1 ≤ n ∧ (W.fixS s p e n).2.1 = p + n.toNat) := by
  unfold W.fixS
  split
  · rename_i h
    refine ⟨Nat.le_refl _, fun h0 => ?_⟩
    simp only [W.failE] at h0
    split at h0
    · cases h0
    · rename_i h1; exact absurd h0 h1
  · rename_i h
    simp only [W.rawS]
    split
    · rename_i h1; exact ⟨Nat.le_refl _, fun h0 => absurd h0 h1⟩
    · rename_i h1
      split
      · exact ⟨Nat.le_refl _, fun h0 => by cases h0⟩
      · split
        · exact ⟨Nat.le_refl _, fun h0 => by cases h0⟩
        · exact ⟨Nat.le_add_right _ _, fun _ => ⟨by simpa using h1, by omega, rfl⟩⟩
theorem tlN_up (s : ByteArray) (p : Nat) (e : Int) (ta : List Nat) : p ≤ (tlN s p e ta).2.1 ∧ ((tlN s p e ta).2.2 = 0 → (tlN s p e ta).2.1 = p + 5) := by
  have h1 := fixS_mono s p e 1
  have h2 := fixS_mono s (W.fixS s p e 1).2.1 (W.fixS s p e 1).2.2 2
  have h3 := fixS_mono s (W.fixS s (W.fixS s p e 1).2.1 (W.fixS s p e 1).2.2 2).2.1 (W.fixS s (W.fixS s p e 1).2.1 (W.fixS s p e 1).2.2 2).2.2 2
  refine ⟨by simp only [tlN]; omega, fun h => ?_⟩
  simp only [tlN] at h ⊢
  have q3 := h3.2 h
  have q2 := h2.2 q3.1
  have q1 := h1.2 q2.1
  have e1 : (1 : Int).toNat = 1 := rfl
  have e2 : (2 : Int).toNat = 2 := rfl
  omega
theorem tlF_ok (s : ByteArray) : ∀ (f p : Nat) (e : Int) (ta : List Nat), ta.length = 10 → (∀ v ∈ ta, v < 65536) → (tlF s f p e ta).1.length = 10 ∧ ∀ v ∈ (tlF s f p e ta).1, v < 65536
  | 0, p, e, ta, h1, h2 => ⟨h1, h2⟩
  | f + 1, p, e, ta, h1, h2 => by
    rw [tlF]
    split
    · exact tlF_ok s f _ _ _ (by rw [tlN, setT_len]; exact h1) (setT_bd h2 (Nat.mod_lt _ (by decide)) (Nat.mod_lt _ (by decide)))
    · exact ⟨h1, h2⟩
/-- while a tally is taken -/
structure Tt (u w : World) (R T a : Nat) (s : ByteArray) (p : Nat) (e : Int) (ta : List Nat) : Prop where
  rd : W.Rd w a s p e
  tb : Tb w T ta
  tr : Tb w R ta0
  up : W.Upd u w a a
  h1 : R = u.heap.size
  h2 : T = R + 1
  h3 : a < R
section
variable {u w w' : World} {R T a : Nat} {s : ByteArray} {p : Nat} {e : Int} {ta : List Nat}
theorem Tt.read {p' : Nat} {e' : Int} (h : Tt u w R T a s p e ta) (hr : W.Rt w w' a s p' e') : Tt u w' R T a s p' e' ta := by
  have h1 := h.h1
  have h2 := h.h2
  have h3 := h.h3
  have l1 := (Array.getElem?_eq_some_iff.1 h.tb.row).1
  have l2 := (Array.getElem?_eq_some_iff.1 h.tr.row).1
  exact ⟨hr.1, ⟨(hr.2.block T l1 (by omega) (by omega)).trans h.tb.row, h.tb.len⟩, ⟨(hr.2.block R l2 (by omega) (by omega)).trans h.tr.row, h.tr.len⟩, h.up.trans hr.2 (.inl rfl), h1, h2, h3⟩
theorem Tt.drewN (h : Tt u w R T a s p e ta) (n : Nat) : Tt u (w.drewN n) R T a s p e ta := ⟨h.rd.drewN n, ⟨h.tb.row, h.tb.len⟩, ⟨h.tr.row, h.tr.len⟩, h.up.drewN n, h.h1, h.h2, h.h3⟩
theorem Tt.set {ta' : List Nat} (h : Tt u w R T a s p e ta) (hb : Tb w' T ta') (ho : ∀ i, i ≠ T → w'.heap[i]? = w.heap[i]?) (hs : w'.heap.size = w.heap.size) (hbl : ∀ B v, B ≤ T → Below B v w → Below B v w') : Tt u w' R T a s p e ta' := by
  have h1 := h.h1
  have h2 := h.h2
  have h3 := h.h3
  have hd := hbl T w (Nat.le_refl _) (Below.refl _ _)
  exact ⟨h.rd.same (by omega) (ho a (by omega)), hb, ⟨(ho R (by omega)).trans h.tr.row, h.tr.len⟩, ⟨hd.os.trans h.up.os, hd.tape.trans h.up.tape, hd.output.trans h.up.output, by rw [hs]; exact h.up.size, fun k hk k1 k2 => (ho k (by omega)).trans (h.up.block k hk k1 k2)⟩, h1, h2, h3⟩
end
/-- how much a reader has to take -/
def mz (a n : Nat) (w : World) : Nat := match w.cell? ⟨a, 1, none⟩, w.cell? ⟨a, 2, none⟩ with
  | some (.int _ p), some (.int _ e) => (n - p.toNat) + (if e = 0 then 1 else 0)
  | _, _ => 0
theorem mz_of {w : World} {a : Nat} {s : ByteArray} {p : Nat} {e : Int} (h : W.Rd w a s p e) : mz a s.size w = (s.size - p) + (if e = 0 then 1 else 0) := by
  simp only [mz, h.c1, h.c2, Int.toNat_natCast]
set_option maxRecDepth 100000 in
set_option maxHeartbeats 8000000 in
theorem lTakeTally (a : Nat) (s : ByteArray) (p : Nat) (e : Int) (u : World) (h : W.Rd u a s p e) : Calls Try.prog 68 #[.pointer (some ⟨a, 0, none⟩)] u fun y u' => y = .returned (.agg (taC (tlF s (s.size - p + 1) p e ta0).1).toArray) ∧ W.Rt u u' a s (tlF s (s.size - p + 1) p e ta0).2.1 (tlF s (s.size - p + 1) p e ta0).2.2 := by
  have HRD := hide h
  have HALT := hide h.lt
  have HLF : Hid (∀ (w : World) (p : Nat) (e : Int), W.Rd w a s p e → Calls Try.prog 90 #[.pointer (some ⟨a, 0, none⟩)] w fun x w' => x = .returned (.int .i64 ((s.size : Int) - p)) ∧ ∃ n, w' = w.drewN n) := fun w p e h => W.rLeft a s p e w h
  have HER : Hid (∀ (w : World) (p : Nat) (e : Int), W.Rd w a s p e → Calls Try.prog 91 #[.pointer (some ⟨a, 0, none⟩)] w fun x w' => x = .returned (.int .i64 e) ∧ w' = w) := fun w p e h => W.rErr a s p e w h
  have HBY : Hid (∀ (w : World) (p : Nat) (e : Int), W.Rd w a s p e → Calls Try.prog 67 #[.pointer (some ⟨a, 0, none⟩)] w fun y w' => y = .returned (.int .u8 ((W.fixS s p e 1).1 % 256 : Nat)) ∧ W.Rt w w' a s (W.fixS s p e 1).2.1 (W.fixS s p e 1).2.2) := fun w p e h => W.rByte a s p e w h
  have HFX : Hid (∀ (w : World) (p : Nat) (e : Int), W.Rd w a s p e → Calls Try.prog 89 #[.pointer (some ⟨a, 0, none⟩), .int .i64 2] w fun y w' => y = .returned (.int .u64 ((W.fixS s p e 2).1 : Nat)) ∧ W.Rt w w' a s (W.fixS s p e 2).2.1 (W.fixS s p e 2).2.2) := fun w p e h => W.rFixed a s p e 2 w h
  have HST : Hid (∀ (ta : List Nat) (T r x y : Nat) (u : World), Tb u T ta → Calls Try.prog 92 #[.pointer (some ⟨T, 0, none⟩), .int .i64 (r : Int), .int .u16 (x : Int), .int .u16 (y : Int)] u fun e u' => e = .returned (.tuple #[]) ∧ Tb u' T (setT ta r x y) ∧ (∀ B v, B ≤ T → Below B v u → Below B v u') ∧ (∀ i, i ≠ T → u'.heap[i]? = u.heap[i]?) ∧ u'.heap.size = u.heap.size) := lSet
  have HOK : Hid ((tlF s (s.size - p + 1) p e ta0).1.length = 10) := (tlF_ok s _ p e ta0 rfl (by decide)).1
  have HF0 : Hid (tlF s (s.size - p + 1) p e ta0 = tlF s (s.size - p + 1) p e ta0) := rfl
  obtain ⟨FIN, hFIN⟩ : ∃ x, x = tlF s (s.size - p + 1) p e ta0 := ⟨_, rfl⟩
  have HFE : Hid (tlF s (s.size - p + 1) p e ta0 = FIN) := hFIN.symm
  rw [← hFIN] at HOK ⊢
  clear hFIN HF0 h
  obtain ⟨R, hR⟩ : ∃ R, R = u.heap.size := ⟨_, rfl⟩
  have HR := hide hR
  clear hR
  obtain ⟨TZ, hTZ⟩ : ∃ x, x = (taC ta0).toArray := ⟨_, rfl⟩
  have HTZ := hide hTZ
  have HZE : Hid (((Try.prog.info? 75).bind (·.zero)).map (·.cells) = some TZ) := by rw [hTZ]; exact taZero
  clear hTZ
  go_enter Try.func68, Try.ntmps68
  go_wp2_with (first
    | ((with_reducible refine wpList_alloc_row (by rfl) 75 (by rfl) (some 2) (by rfl) R (unhide HR).symm TZ (unhide HZE) ?_); intro W1 HX1 HB1 HS1; simp only [Act.put, List.setIfInBounds_toArray, List.set_cons_zero, List.set_cons_succ])
    | ((with_reducible refine wpList_alloc_row (by rfl) 75 (by rfl) (some 3) (by rfl) (R + 1) (unhide HS1) TZ (unhide HZE) ?_); intro W2 HX2 HB2 HS2; simp only [Act.put, List.setIfInBounds_toArray, List.set_cons_zero, List.set_cons_succ])
    | fail)
  have HI0 : Hid (Tt u W2 R (R + 1) a s p e ta0) := by
    have hb12 : Below u.heap.size u W2 := by rw [← unhide HR]; exact (unhide HB1).trans ((unhide HB2).mono (by omega))
    refine ⟨Rd.below (unhide HRD) hb12, ⟨by rw [← unhide HTZ]; exact unhide HX2, rfl⟩, ⟨by rw [← unhide HTZ]; exact ((unhide HB2).block R (by omega)).trans (unhide HX1), rfl⟩, ⟨hb12.os, hb12.tape, hb12.output, hb12.size, fun k hk _ _ => hb12.block k hk⟩, unhide HR, rfl, by rw [unhide HR]; exact unhide HALT⟩
  clear HX1 HB1 HS1 HX2 HB2 HS2 HZE HRD
  go_loopw [4, 5, 6] (fun _ _ _ wr => ∃ (p : Nat) (e : Int) (ta : List Nat) (f : Nat), Hid (Tt u wr R (R + 1) a s p e ta) ∧ Hid (tlF s f p e ta = FIN) ∧ Hid (e = 0 → s.size - p + 1 ≤ f)) (fun _ _ _ wr => mz a s.size wr)
  case atStart => exact ⟨p, e, ta0, s.size - p + 1, unhide HI0, unhide HFE, fun _ => Nat.le_refl _⟩
  case round =>
    clear HI0 HFE
    obtain ⟨q, eq, ta, f, HI, HF, HFU⟩ := hrel
    have HMZ := hide (mz_of (unhide HI).rd)
    have hqs := (unhide HI).rd.le
    have hqm := (unhide HI).rd.max
    by_cases hc : q < s.size ∧ eq = 0
    · obtain ⟨hq, rfl⟩ := hc
      obtain ⟨f1, rfl⟩ : ∃ f1, f = f1 + 1 := ⟨f - 1, by have := unhide HFU rfl; omega⟩
      have HF1 : Hid (tlF s f1 (tlN s q 0 ta).2.1 (tlN s q 0 ta).2.2 (tlN s q 0 ta).1 = FIN) := by have := unhide HF; rw [tlF, if_pos ⟨hq, rfl⟩] at this; exact this
      have HUP := hide (tlN_up s q 0 ta)
      have HFU1 : Hid (s.size - q + 1 ≤ f1 + 1) := unhide HFU rfl
      have hgt : (0 : Int) < (s.size : Int) - (q : Int) := by omega
      have HTN : Hid (tlN s q 0 ta = (setT ta ((W.fixS s q 0 1).1 % 256) ((W.fixS s (W.fixS s q 0 1).2.1 (W.fixS s q 0 1).2.2 2).1 % 65536) ((W.fixS s (W.fixS s (W.fixS s q 0 1).2.1 (W.fixS s q 0 1).2.2 2).2.1 (W.fixS s (W.fixS s q 0 1).2.1 (W.fixS s q 0 1).2.2 2).2.2 2).1 % 65536), (W.fixS s (W.fixS s (W.fixS s q 0 1).2.1 (W.fixS s q 0 1).2.2 2).2.1 (W.fixS s (W.fixS s q 0 1).2.1 (W.fixS s q 0 1).2.2 2).2.2 2).2)) := rfl
      generalize tlN s q 0 ta = TN at *
      obtain ⟨n1, p1, e1, h1⟩ : ∃ a b c, W.fixS s q 0 1 = (a, b, c) := ⟨_, _, _, rfl⟩
      rw [h1] at HTN
      simp only at HTN
      obtain ⟨n2, p2, e2, h2⟩ : ∃ a b c, W.fixS s p1 e1 2 = (a, b, c) := ⟨_, _, _, rfl⟩
      rw [h2] at HTN
      simp only at HTN
      obtain ⟨n3, p3, e3, h3⟩ : ∃ a b c, W.fixS s p2 e2 2 = (a, b, c) := ⟨_, _, _, rfl⟩
      rw [h3] at HTN
      simp only at HTN
      have HBY1 : Hid (∀ w : World, W.Rd w a s q 0 → Calls Try.prog 67 #[.pointer (some ⟨a, 0, none⟩)] w fun y w' => y = .returned (.int .u8 ((n1 % 256 : Nat) : Int)) ∧ W.Rt w w' a s p1 e1) := fun w h => by have := unhide HBY w q 0 h; rw [h1] at this; exact this
      have HFX1 : Hid (∀ w : World, W.Rd w a s p1 e1 → Calls Try.prog 89 #[.pointer (some ⟨a, 0, none⟩), .int .i64 2] w fun y w' => y = .returned (.int .u64 (n2 : Int)) ∧ W.Rt w w' a s p2 e2) := fun w h => by have := unhide HFX w p1 e1 h; rw [h2] at this; exact this
      have HFX2 : Hid (∀ w : World, W.Rd w a s p2 e2 → Calls Try.prog 89 #[.pointer (some ⟨a, 0, none⟩), .int .i64 2] w fun y w' => y = .returned (.int .u64 (n3 : Int)) ∧ W.Rt w w' a s p3 e3) := fun w h => by have := unhide HFX w p2 e2 h; rw [h3] at this; exact this
      have hm1 : n1 % 256 < 256 := Nat.mod_lt _ (by decide)
      generalize n1 % 256 = m1 at *
      have hw1 : wrap64 (m1 : Int) = (m1 : Int) := by simp only [wrap64]; omega
      have hw2 : IntKind.u16.wrap (n2 : Int) = ((n2 % 65536 : Nat) : Int) := by rw [IntKind.wrap_u16]; omega
      have hw3 : IntKind.u16.wrap (n3 : Int) = ((n3 % 65536 : Nat) : Int) := by rw [IntKind.wrap_u16]; omega
      generalize n2 % 65536 = m2 at *
      generalize n3 % 65536 = m3 at *
      clear h1 h2 h3 HBY HFX hm1 HFU HF
      obtain ⟨w0, hw0⟩ : ∃ x, x = wr := ⟨_, rfl⟩
      rw [← hw0] at HI HMZ ⊢
      clear hw0
      go_wp2_with (first
        | (go_at_call 90; refine (unhide HLF w0 q 0 (unhide HI).rd).mono ?_; rintro x W3 ⟨rfl, cN, hw⟩; have HI3 : Hid (Tt u W3 R (R + 1) a s q 0 ta) := (by rw [hw]; exact (unhide HI).drewN cN); clear hw)
        | (go_at_call 91; refine (unhide HER W3 q 0 (unhide HI3).rd).mono ?_; rintro x W4 ⟨rfl, hw⟩; obtain rfl := hw.symm)
        | (go_at_call 67; refine (unhide HBY1 W3 (unhide HI3).rd).mono ?_; rintro x W5 ⟨rfl, hr⟩; have HI5 := hide ((unhide HI3).read hr); clear hr)
        | (go_at_call 89; refine (unhide HFX1 W5 (unhide HI5).rd).mono ?_; rintro x W6 ⟨rfl, hr⟩; have HI6 := hide ((unhide HI5).read hr); clear hr HFX1)
        | (go_at_call 89; refine (unhide HFX2 W6 (unhide HI6).rd).mono ?_; rintro x W7 ⟨rfl, hr⟩; have HI7 := hide ((unhide HI6).read hr); clear hr)
        | (go_at_call 92; refine (unhide HST ta (R + 1) m1 m2 m3 W7 (unhide HI7).tb).mono ?_; rintro x W8 ⟨rfl, hb, hbl, ho, hs⟩; have HI8 := hide ((unhide HI7).set hb ho hs hbl); clear hb hbl ho hs)
        | fail)
      go_roundw
      case rel => exact ⟨p3, e3, _, f1, unhide HI8, by have := unhide HF1; rw [unhide HTN] at this; exact this, fun h0 => by have h5 := (unhide HUP).2 (by rw [unhide HTN]; exact h0); rw [unhide HTN] at h5; simp only at h5; have := unhide HFU1; omega⟩
      case measure =>
        rw [mz_of (unhide HI8).rd, unhide HMZ]
        have h4 := (unhide HUP).1
        have h5 := (unhide HUP).2
        rw [unhide HTN] at h4 h5
        simp only at h4 h5
        have hle := (unhide HI8).rd.le
        split <;> simp <;> omega
    · have HF1 : Hid ((ta, q, eq) = FIN) := by have := unhide HF; rw [tlF_stop hc] at this; exact this
      have HZ1 : Hid ((Try.prog.info? 75).map (·.size) = some (taC ta).toArray.size) := by rw [show (taC ta).toArray.size = 10 by simp [taC_len, (unhide HI).tb.len]]; exact taInfo
      have HZ2 : Hid ((taC ta0).toArray.size = (taC ta).toArray.size) := by show _ = _; simp [taC_len, (unhide HI).tb.len, ta0]
      have HZ3 : Hid ((taC ta).toArray.all (·.oneCell') = true) := by
        rw [Array.all_eq_true']
        intro v hv
        exact taC_one _ v (by simpa using hv)
      obtain ⟨TA, hTA⟩ : ∃ x, x = (taC ta).toArray := ⟨_, rfl⟩
      have HTA : Hid ((taC ta).toArray = TA) := hTA.symm
      rw [← hTA] at HZ1 HZ2 HZ3
      clear hTA HF HFU HMZ HBY HFX HST
      obtain ⟨w0, hw0⟩ : ∃ x, x = wr := ⟨_, rfl⟩
      rw [← hw0] at HI ⊢
      clear hw0
      by_cases hq : q < s.size
      · have heq : (eq == 0) = false := by simpa using fun h => hc ⟨hq, h⟩
        have hgt : (0 : Int) < (s.size : Int) - (q : Int) := by omega
        clear hc
        go_wp2_with (first
          | (go_at_call 90; refine (unhide HLF w0 q eq (unhide HI).rd).mono ?_; rintro x W3 ⟨rfl, cN, hw⟩; have HI3 : Hid (Tt u W3 R (R + 1) a s q eq ta) := (by rw [hw]; exact (unhide HI).drewN cN); clear hw; have HRW : Hid (W3.heap[R + 1]? = some (.cells TA 75 (0, 0))) := (by rw [← unhide HTA]; exact (unhide HI3).tb.row); have HRS : Hid (W3.heap[R]? = some (.cells (taC ta0).toArray 75 (0, 0))) := (unhide HI3).tr.row)
            | (go_at_call 91; refine (unhide HER W3 q eq (unhide HI3).rd).mono ?_; rintro x W4 ⟨rfl, hw⟩; obtain rfl := hw.symm)
            | ((with_reducible refine wpList_load_row (by rfl) _ (.tmp 3) (by rfl) (R + 1) (by with_unfolding_all rfl) _ _ _ _ (unhide HRW) Try.underlying75 rfl (unhide HZ1) ?_); simp only [Act.put, List.setIfInBounds_toArray, List.set_cons_zero, List.set_cons_succ])
            | ((with_reducible refine wpList_store_hid (by rfl) 75 (.tmp 2) (.tmp 28) (by rfl) R TA (by with_unfolding_all rfl) (by with_unfolding_all rfl) _ _ (unhide HRS) (unhide HZ1) (unhide HZ2) (unhide HZ3) ?_); intro W9 HX9 HE9; simp only [Act.put])
            | fail)
        refine bodyPost_ret (results_cell_row rfl _ _ R 75 TA (0, 0) _ rfl (unhide HX9) Try.underlying75 rfl (unhide HZ1)) rfl ?_
        rw [← unhide HF1]
        have h1 := (unhide HI3).h1
        have h3 := (unhide HI3).h3
        have hd : Below R W3 W9 := by rw [unhide HE9]; exact belowRow (Below.refl _ _) (Nat.le_refl _) _
        refine ⟨by rw [unhide HTA], (unhide HI3).rd.same hd.size (hd.block a (by omega)), hd.os.trans (unhide HI3).up.os, hd.tape.trans (unhide HI3).up.tape, hd.output.trans (unhide HI3).up.output, Nat.le_trans (unhide HI3).up.size hd.size, fun k hk k1 k2 => (hd.block k (by omega)).trans ((unhide HI3).up.block k hk k1 k2)⟩
      · have hgt : ¬ (0 : Int) < (s.size : Int) - (q : Int) := by omega
        clear hc
        go_wp2_with (first
          | (go_at_call 90; refine (unhide HLF w0 q eq (unhide HI).rd).mono ?_; rintro x W3 ⟨rfl, cN, hw⟩; have HI3 : Hid (Tt u W3 R (R + 1) a s q eq ta) := (by rw [hw]; exact (unhide HI).drewN cN); clear hw; have HRW : Hid (W3.heap[R + 1]? = some (.cells TA 75 (0, 0))) := (by rw [← unhide HTA]; exact (unhide HI3).tb.row); have HRS : Hid (W3.heap[R]? = some (.cells (taC ta0).toArray 75 (0, 0))) := (unhide HI3).tr.row)
            | ((with_reducible refine wpList_load_row (by rfl) _ (.tmp 3) (by rfl) (R + 1) (by with_unfolding_all rfl) _ _ _ _ (unhide HRW) Try.underlying75 rfl (unhide HZ1) ?_); simp only [Act.put, List.setIfInBounds_toArray, List.set_cons_zero, List.set_cons_succ])
            | ((with_reducible refine wpList_store_hid (by rfl) 75 (.tmp 2) (.tmp 28) (by rfl) R TA (by with_unfolding_all rfl) (by with_unfolding_all rfl) _ _ (unhide HRS) (unhide HZ1) (unhide HZ2) (unhide HZ3) ?_); intro W9 HX9 HE9; simp only [Act.put])
            | fail)
        refine bodyPost_ret (results_cell_row rfl _ _ R 75 TA (0, 0) _ rfl (unhide HX9) Try.underlying75 rfl (unhide HZ1)) rfl ?_
        rw [← unhide HF1]
        have h1 := (unhide HI3).h1
        have h3 := (unhide HI3).h3
        have hd : Below R W3 W9 := by rw [unhide HE9]; exact belowRow (Below.refl _ _) (Nat.le_refl _) _
        refine ⟨by rw [unhide HTA], (unhide HI3).rd.same hd.size (hd.block a (by omega)), hd.os.trans (unhide HI3).up.os, hd.tape.trans (unhide HI3).up.tape, hd.output.trans (unhide HI3).up.output, Nat.le_trans (unhide HI3).up.size hd.size, fun k hk k1 k2 => (hd.block k (by omega)).trans ((unhide HI3).up.block k hk k1 k2)⟩
end Go.Proofs.Ytpepgealeanecaa
