/- Tallies: made, stepped. -/
import Derived.Test.YtpepgealeanecaaGv
namespace Go.Proofs.Ytpepgealeanecaa
open Go.RowKit Go.Lib
theorem tat_n (w : World) {ta : List Nat} (hl : ta.length = 10) (hb : ∀ v ∈ ta, v < 65536) : TAt w (nT ta) none 0 none 0 :=
  ⟨(by decide : (3 : Nat) < 256), Lies.nil _ _, Lies.nil _ _, fun b hb => (by cases hb), fun b hb => (by cases hb), hl, hb, Nat.le_refl _, Nat.le_refl _, fun _ => rfl, fun _ => rfl, Nat.zero_le _, Nat.zero_le _⟩
theorem kTally (u : World) : Calls Try.prog 33 #[] u fun e u' => e = .returned (.string (tS (nT ta0))) ∧ Below u.heap.size u u' := by
  have HTO : Hid (Calls Try.prog 52 #[.agg #[.int .u8 3, .bool false, .slice none 0 0, .int .u16 0, .int .u16 0, .int .u16 0, .int .u16 0, .int .u16 0, .int .u16 0, .int .u16 0, .int .u16 0, .int .u16 0, .int .u16 0, .slice none 0 0]] u fun e w' => e = .returned (.string (tS (nT ta0))) ∧ Below u.heap.size u w') := told3 (nT ta0) rfl none 0 none 0 0 0 rfl rfl u (tat_n u rfl (by decide))
  generalize tS (nT ta0) = S at *
  go_enter Try.func33, Try.ntmps33
  go_wp2_with (first
    | (go_at_call 52; refine (unhide HTO).mono ?_; rintro e W2 ⟨rfl, hb⟩; have HB2 := hide hb; clear hb)
    | fail)
  go_ret
  exact ⟨rfl, unhide HB2⟩
theorem ixT8 (N q : Nat) (hq : q < 5) (W : World) : (Instr.indexAt 75 (.pointer (some ⟨N, 3, none⟩)) (.int .u8 (q : Int))).run Try.prog W = .ok (.pointer (some ⟨N, 3 + 2 * q, none⟩)) W := by
  have he : Try.prog.elem 75 = 73 := by kernel_rfl
  have hn : Try.prog.arrayLen 75 = 5 := by kernel_rfl
  rw [run_indexAt_array W 75 _ _ _ (by rw [he, hn]; exact Try.underlying75), hn, he]
  simp only [sizeN ctInfo, Result.andThen_ok]
  rw [if_pos ⟨by omega, by omega⟩]
  simp only [Int.toNat_natCast, Addr.add_mid, Nat.mul_comm]
theorem Bt.setc {w : World} {N k : Nat} {on : Bool} {fa : Option Addr} {n fc : Nat} {ta : List Nat} {ra : Option Addr} {m rc : Nat} (h : Bt w N k on fa n fc ta ra m rc) {i : Nat} (hi : i < 10) (c : Nat) : Bt (w.setCell ⟨N, 3 + i, none⟩ (.int .u16 (c : Int))) N k on fa n fc (ta.set i c) ra m rc := by
  refine ⟨?_, by rw [List.length_set]; exact h.len⟩
  have h1 := heapCell_same h.row (3 + i) (.int .u16 (c : Int))
  rw [h1]
  congr 2
  obtain ⟨a0, a1, a2, a3, a4, a5, a6, a7, a8, a9, rfl⟩ := ten h.len
  have : i = 0 ∨ i = 1 ∨ i = 2 ∨ i = 3 ∨ i = 4 ∨ i = 5 ∨ i = 6 ∨ i = 7 ∨ i = 8 ∨ i = 9 := by omega
  rcases this with rfl | rfl | rfl | rfl | rfl | rfl | rfl | rfl | rfl | rfl <;> rfl
theorem Bt.ci {w : World} {N k : Nat} {on : Bool} {fa : Option Addr} {n fc : Nat} {ta : List Nat} {ra : Option Addr} {m rc : Nat} (h : Bt w N k on fa n fc ta ra m rc) {i : Nat} (hi : i < 10) : w.cell? ⟨N, 3 + i, none⟩ = some (.int .u16 (ta.getD i 0 : Nat)) := by
  refine h.rng i _ ?_
  have := h.len
  simp [taC, List.getElem?_eq_getElem (show i < ta.length by omega), List.getD_eq_getElem?_getD]
/-- where a step counts, and how much -/
def stI (r : Nat) (by_ : Int) : Nat := 2 * (r - 1) + (if by_ < 0 then 1 else 0)
/-- what a step answers -/
def stR (ta : List Nat) (r : Nat) (by_ : Int) : Option (List Nat) := if ta.getD (stI r by_) 0 + by_.natAbs ≤ 65535 then some (ta.set (stI r by_) (ta.getD (stI r by_) 0 + by_.natAbs)) else none
theorem step_bd {ta : List Nat} (hb : ∀ v ∈ ta, v < 65536) {i c : Nat} (hc : c ≤ 65535) : ∀ v ∈ ta.set i c, v < 65536 := by
  intro v hv
  rcases List.mem_or_eq_of_mem_set hv with hv | rfl
  · exact hb v hv
  · omega
theorem tat_n' (w : World) {ta : List Nat} (hl : ta.length = 10) (hb : ∀ v ∈ ta, v < 65536) {fa : Option Addr} {fc : Nat} (hf : fa = none → fc = 0) : TAt w (nT ta) fa fc none 0 :=
  ⟨(by decide : (3 : Nat) < 256), Lies.nil _ _, Lies.nil _ _, fun b hb => (by cases hb), fun b hb => (by cases hb), hl, hb, Nat.zero_le _, Nat.le_refl _, hf, fun _ => rfl, Nat.zero_le _, Nat.zero_le _⟩
set_option maxRecDepth 100000 in
set_option maxHeartbeats 8000000 in
theorem kStepGo (ta : List Nat) (hl : ta.length = 10) (hb : ∀ v ∈ ta, v < 65536) (r : Nat) (h1 : 1 ≤ r) (h5 : r ≤ 5) (c : Int) (hc1 : -32768 ≤ c) (hc2 : c ≤ 32767) (u : World) :
    (∀ t, stR ta r c = some t → Calls Try.prog 31 #[.string (tS (nT ta)), .int .u8 (r : Int), .int .i16 c] u fun e u' => e = .returned (.tuple #[.string (tS (nT t)), .int .i64 0]) ∧ Below u.heap.size u u') ∧ (stR ta r c = none → Calls Try.prog 31 #[.string (tS (nT ta)), .int .u8 (r : Int), .int .i16 c] u fun e u' => e = .returned (.tuple #[.string ⟨#[]⟩, .int .i64 101]) ∧ Below u.heap.size u u') := by
  have HT : Hid (∀ u : World, Calls Try.prog 50 #[.string (tS (nT ta)), .int .u8 3] u fun z u' => ∃ fa fc, z = .returned (.tuple #[tyV 3 false fa 0 fc ta none 0 0, .int .i64 0]) ∧ (fa = none → fc = 0) ∧ Below u.heap.size u u') := fun u => (kAsYes (tS (nT ta)) (nT ta) (takes_n hl hb) u).mono fun z u' hh => by
    obtain ⟨v, h1, fa, fc, ra, rc, n, m, h2, h3, h4, h5, h6, h7, h8, h9⟩ := hh
    obtain ⟨rfl, rfl⟩ := h9 rfl
    obtain rfl : n = 0 := h3
    obtain rfl : m = 0 := h4
    exact ⟨fa, fc, by rw [h1, h2]; rfl, h5.f0, h6⟩
  have HL := hide hl
  have HIR := hide (kIsRep (r : Int))
  rw [decide_eq_true (by omega)] at HIR
  have hcb := getD_bd hb (stI r c)
  have HI10 : Hid (stI r c < 10) := by show stI r c < 10; unfold stI; split <;> omega
  have HTO0 : Hid (ta.getD (stI r c) 0 + c.natAbs ≤ 65535 → ∀ (w : World) (fa : Option Addr) (fc : Nat), (fa = none → fc = 0) → Calls Try.prog 52 #[tyV 3 false fa 0 fc (ta.set (stI r c) (ta.getD (stI r c) 0 + c.natAbs)) none 0 0] w fun e w' => e = .returned (.string (tS (nT (ta.set (stI r c) (ta.getD (stI r c) 0 + c.natAbs))))) ∧ Below w.heap.size w w') := fun hle w fa fc hf => tTold (nT (ta.set (stI r c) (ta.getD (stI r c) 0 + c.natAbs))) (by simp [nT]) fa fc none 0 0 0 rfl rfl w (tat_n' w (by rw [List.length_set]; exact hl) (step_bd hb hle) hf)
  have hmu : (c.natAbs : Int) = if c < 0 then -c else c := by split <;> omega
  have hwr : wrap64 (r : Int) = (r : Int) := by simp only [wrap64]; omega
  have hsub : IntKind.u8.wrap ((r : Int) - 1) = ((r - 1 : Nat) : Int) := by rw [IntKind.wrap_u8]; omega
  have HQ5 : Hid (r - 1 < 5) := by show r - 1 < 5; omega
  unfold stR
  have hst : stI r c = 2 * (r - 1) + (if c < 0 then 1 else 0) := rfl
  generalize tS (nT ta) = S0 at *
  generalize hidx : stI r c = idx at *
  generalize hcn : ta.getD idx 0 = cnt at *
  have HCN := hide hcn
  clear hcn
  generalize hq : r - 1 = q at *
  generalize c.natAbs = mu at *
  have hsb : IntKind.u16.wrap (65535 - (cnt : Int)) = ((65535 - cnt : Nat) : Int) := by rw [IntKind.wrap_u16]; omega
  by_cases hneg : c < 0
  · rw [if_pos hneg] at hst hmu
    have HOO : Hid (3 + 2 * q + 1 = 3 + idx) := by show _ = _; omega
    have hz : IntKind.u16.wrap c = 65536 + c := by rw [IntKind.wrap_u16]; omega
    have hng : IntKind.u16.wrap (-(65536 + c)) = (mu : Int) := by rw [IntKind.wrap_u16]; omega
    generalize 65536 + c = z at *
    clear hidx hst hq hmu h1 h5 hc1 hc2 hl hb
    by_cases hov : cnt + mu ≤ 65535
    · rw [if_pos hov]
      refine ⟨fun t ht => ?_, fun h => by cases h⟩
      obtain rfl := Option.some.inj ht
      have HTO := hide (unhide HTO0 hov)
      have hgt : ¬ ((65535 - cnt : Nat) : Int) < (mu : Int) := by omega
      have had : IntKind.u16.wrap ((cnt : Int) + (mu : Int)) = ((cnt + mu : Nat) : Int) := by rw [IntKind.wrap_u16]; omega
      generalize cnt + mu = nc at *
      generalize tS (nT (ta.set idx nc)) = S1 at *
      generalize 65535 - cnt = rest at *
      clear ht HTO0 hcb
      go_enter Try.func31, Try.ntmps31
      go_wp2_with (first
          | (go_at_call 50; refine (unhide HT u).mono ?_; rintro e W1 ⟨fa, fc, rfl, hf1, hb1⟩; have HF1 := hide hf1; have HB1 := hide hb1; clear hf1 hb1; obtain ⟨M, hM⟩ : ∃ M, M = W1.heap.size := ⟨_, rfl⟩; have HM := hide hM; clear hM; have hix := ixT8 M q (unhide HQ5))
          | ((with_reducible refine wpList_alloc_ty (by rfl) (by rfl) (some 8) (by rfl) M (unhide HM) ?_); intro W2 HX2 HB2 HS2; simp only [Act.put, List.setIfInBounds_toArray, List.set_cons_zero, List.set_cons_succ])
          | ((with_reducible refine wpList_store_ty (by rfl) (.tmp 8) (.tmp 16) (by rfl) M 3 false fa 0 fc ta none 0 0 (by with_unfolding_all rfl) (by with_unfolding_all rfl) (unhide HL) (unhide HX2) ?_); intro W3 HX3 HE3 HS3 HO3; simp only [Act.put]; have HB3 : Hid (Below u.heap.size u W3) := (unhide HB1).trans ((unhide HE3 M W1 (Nat.le_refl _) (unhide HB2)).mono (by rw [unhide HM]; exact (unhide HB1).size)); have cc0 := (unhide HX3).ci (unhide HI10); rw [unhide HCN, ← unhide HOO] at cc0; have ff0 := (unhide HX3).free (3 + 2 * q + 1); have HBS : Hid (∀ nc : Nat, Bt (W3.setCell ⟨M, 3 + 2 * q + 1, none⟩ (.int .u16 (nc : Int))) M 3 false fa 0 fc (ta.set idx nc) none 0 0) := (fun nc => by have := (unhide HX3).setc (unhide HI10) nc; rw [← unhide HOO] at this; exact this))
          | (go_at_call 55; refine (unhide HIR _).mono ?_; rintro e W4 ⟨rfl, hw4⟩; obtain rfl := hw4.symm)
          | ((with_reducible refine wpList_load_ty (by rfl) (.tmp 8) (by rfl) (some 49) (by rfl) M (by with_unfolding_all rfl) (unhide HBS nc) ?_); simp only [Act.put, List.setIfInBounds_toArray, List.set_cons_zero, List.set_cons_succ])
          | (go_at_call 52; refine (unhide HTO _ fa fc (unhide HF1)).mono ?_; rintro e W6 ⟨rfl, hb6⟩; have HB6 : Hid (Below u.heap.size u W6) := (Below.trans (belowCell (unhide HB3) (by show u.heap.size ≤ M; rw [unhide HM]; exact (unhide HB1).size) _) (hb6.mono (by simp [World.setCell]; exact (unhide HB3).size))); clear hb6)
          | fail)
      go_ret2
      exact ⟨rfl, unhide HB6⟩
    · rw [if_neg hov]
      refine ⟨fun t ht => (by cases ht), fun _ => ?_⟩
      have hgt : ((65535 - cnt : Nat) : Int) < (mu : Int) := by omega
      generalize 65535 - cnt = rest at *
      clear HTO0 hcb hov
      go_enter Try.func31, Try.ntmps31
      go_wp2_with (first
          | (go_at_call 50; refine (unhide HT u).mono ?_; rintro e W1 ⟨fa, fc, rfl, hf1, hb1⟩; have HF1 := hide hf1; have HB1 := hide hb1; clear hf1 hb1; obtain ⟨M, hM⟩ : ∃ M, M = W1.heap.size := ⟨_, rfl⟩; have HM := hide hM; clear hM; have hix := ixT8 M q (unhide HQ5))
          | ((with_reducible refine wpList_alloc_ty (by rfl) (by rfl) (some 8) (by rfl) M (unhide HM) ?_); intro W2 HX2 HB2 HS2; simp only [Act.put, List.setIfInBounds_toArray, List.set_cons_zero, List.set_cons_succ])
          | ((with_reducible refine wpList_store_ty (by rfl) (.tmp 8) (.tmp 16) (by rfl) M 3 false fa 0 fc ta none 0 0 (by with_unfolding_all rfl) (by with_unfolding_all rfl) (unhide HL) (unhide HX2) ?_); intro W3 HX3 HE3 HS3 HO3; simp only [Act.put]; have HB3 : Hid (Below u.heap.size u W3) := (unhide HB1).trans ((unhide HE3 M W1 (Nat.le_refl _) (unhide HB2)).mono (by rw [unhide HM]; exact (unhide HB1).size)); have cc0 := (unhide HX3).ci (unhide HI10); rw [unhide HCN, ← unhide HOO] at cc0; have ff0 := (unhide HX3).free (3 + 2 * q + 1); have HBS : Hid (∀ nc : Nat, Bt (W3.setCell ⟨M, 3 + 2 * q + 1, none⟩ (.int .u16 (nc : Int))) M 3 false fa 0 fc (ta.set idx nc) none 0 0) := (fun nc => by have := (unhide HX3).setc (unhide HI10) nc; rw [← unhide HOO] at this; exact this))
          | (go_at_call 55; refine (unhide HIR _).mono ?_; rintro e W4 ⟨rfl, hw4⟩; obtain rfl := hw4.symm)
          | fail)
      go_ret2
      exact ⟨rfl, unhide HB3⟩
  · rw [if_neg hneg] at hst hmu
    have HOO : Hid (3 + 2 * q = 3 + idx) := by show _ = _; omega
    have hz : IntKind.u16.wrap c = (mu : Int) := by rw [IntKind.wrap_u16]; omega
    clear hidx hst hq hmu h1 h5 hc1 hc2 hl hb
    by_cases hov : cnt + mu ≤ 65535
    · rw [if_pos hov]
      refine ⟨fun t ht => ?_, fun h => by cases h⟩
      obtain rfl := Option.some.inj ht
      have HTO := hide (unhide HTO0 hov)
      have hgt : ¬ ((65535 - cnt : Nat) : Int) < (mu : Int) := by omega
      have had : IntKind.u16.wrap ((cnt : Int) + (mu : Int)) = ((cnt + mu : Nat) : Int) := by rw [IntKind.wrap_u16]; omega
      generalize cnt + mu = nc at *
      generalize tS (nT (ta.set idx nc)) = S1 at *
      generalize 65535 - cnt = rest at *
      clear ht HTO0 hcb
      go_enter Try.func31, Try.ntmps31
      go_wp2_with (first
          | (go_at_call 50; refine (unhide HT u).mono ?_; rintro e W1 ⟨fa, fc, rfl, hf1, hb1⟩; have HF1 := hide hf1; have HB1 := hide hb1; clear hf1 hb1; obtain ⟨M, hM⟩ : ∃ M, M = W1.heap.size := ⟨_, rfl⟩; have HM := hide hM; clear hM; have hix := ixT8 M q (unhide HQ5))
          | ((with_reducible refine wpList_alloc_ty (by rfl) (by rfl) (some 8) (by rfl) M (unhide HM) ?_); intro W2 HX2 HB2 HS2; simp only [Act.put, List.setIfInBounds_toArray, List.set_cons_zero, List.set_cons_succ])
          | ((with_reducible refine wpList_store_ty (by rfl) (.tmp 8) (.tmp 16) (by rfl) M 3 false fa 0 fc ta none 0 0 (by with_unfolding_all rfl) (by with_unfolding_all rfl) (unhide HL) (unhide HX2) ?_); intro W3 HX3 HE3 HS3 HO3; simp only [Act.put]; have HB3 : Hid (Below u.heap.size u W3) := (unhide HB1).trans ((unhide HE3 M W1 (Nat.le_refl _) (unhide HB2)).mono (by rw [unhide HM]; exact (unhide HB1).size)); have cc0 := (unhide HX3).ci (unhide HI10); rw [unhide HCN, ← unhide HOO] at cc0; have ff0 := (unhide HX3).free (3 + 2 * q); have HBS : Hid (∀ nc : Nat, Bt (W3.setCell ⟨M, 3 + 2 * q, none⟩ (.int .u16 (nc : Int))) M 3 false fa 0 fc (ta.set idx nc) none 0 0) := (fun nc => by have := (unhide HX3).setc (unhide HI10) nc; rw [← unhide HOO] at this; exact this))
          | (go_at_call 55; refine (unhide HIR _).mono ?_; rintro e W4 ⟨rfl, hw4⟩; obtain rfl := hw4.symm)
          | ((with_reducible refine wpList_load_ty (by rfl) (.tmp 8) (by rfl) (some 49) (by rfl) M (by with_unfolding_all rfl) (unhide HBS nc) ?_); simp only [Act.put, List.setIfInBounds_toArray, List.set_cons_zero, List.set_cons_succ])
          | (go_at_call 52; refine (unhide HTO _ fa fc (unhide HF1)).mono ?_; rintro e W6 ⟨rfl, hb6⟩; have HB6 : Hid (Below u.heap.size u W6) := (Below.trans (belowCell (unhide HB3) (by show u.heap.size ≤ M; rw [unhide HM]; exact (unhide HB1).size) _) (hb6.mono (by simp [World.setCell]; exact (unhide HB3).size))); clear hb6)
          | fail)
      go_ret2
      exact ⟨rfl, unhide HB6⟩
    · rw [if_neg hov]
      refine ⟨fun t ht => (by cases ht), fun _ => ?_⟩
      have hgt : ((65535 - cnt : Nat) : Int) < (mu : Int) := by omega
      generalize 65535 - cnt = rest at *
      clear HTO0 hcb hov
      go_enter Try.func31, Try.ntmps31
      go_wp2_with (first
          | (go_at_call 50; refine (unhide HT u).mono ?_; rintro e W1 ⟨fa, fc, rfl, hf1, hb1⟩; have HF1 := hide hf1; have HB1 := hide hb1; clear hf1 hb1; obtain ⟨M, hM⟩ : ∃ M, M = W1.heap.size := ⟨_, rfl⟩; have HM := hide hM; clear hM; have hix := ixT8 M q (unhide HQ5))
          | ((with_reducible refine wpList_alloc_ty (by rfl) (by rfl) (some 8) (by rfl) M (unhide HM) ?_); intro W2 HX2 HB2 HS2; simp only [Act.put, List.setIfInBounds_toArray, List.set_cons_zero, List.set_cons_succ])
          | ((with_reducible refine wpList_store_ty (by rfl) (.tmp 8) (.tmp 16) (by rfl) M 3 false fa 0 fc ta none 0 0 (by with_unfolding_all rfl) (by with_unfolding_all rfl) (unhide HL) (unhide HX2) ?_); intro W3 HX3 HE3 HS3 HO3; simp only [Act.put]; have HB3 : Hid (Below u.heap.size u W3) := (unhide HB1).trans ((unhide HE3 M W1 (Nat.le_refl _) (unhide HB2)).mono (by rw [unhide HM]; exact (unhide HB1).size)); have cc0 := (unhide HX3).ci (unhide HI10); rw [unhide HCN, ← unhide HOO] at cc0; have ff0 := (unhide HX3).free (3 + 2 * q); have HBS : Hid (∀ nc : Nat, Bt (W3.setCell ⟨M, 3 + 2 * q, none⟩ (.int .u16 (nc : Int))) M 3 false fa 0 fc (ta.set idx nc) none 0 0) := (fun nc => by have := (unhide HX3).setc (unhide HI10) nc; rw [← unhide HOO] at this; exact this))
          | (go_at_call 55; refine (unhide HIR _).mono ?_; rintro e W4 ⟨rfl, hw4⟩; obtain rfl := hw4.symm)
          | fail)
      go_ret2
      exact ⟨rfl, unhide HB3⟩
end Go.Proofs.Ytpepgealeanecaa
