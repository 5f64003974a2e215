/- Tallies joined and stepped, as mathematics; the law's alive. -/
import Derived.Test.YtpepgealeanecaaGyb
import Derived.Test.YtpepgealeanecaaGr
namespace Go.Proofs.Ytpepgealeanecaa
open Go.RowKit Go.Lib
/-- counts that a tally may have -/
def Gt10 (ta : List Nat) : Prop := ta.length = 10 ∧ ∀ v ∈ ta, v < 65536
theorem gt_0 : Gt10 ta0 := ⟨rfl, by decide⟩
theorem gt_jn {a b : List Nat} (ha : Gt10 a) (hb : Gt10 b) : Gt10 (tjn a b) := ⟨tjn_len ha.1 hb.1, tjn_bd ha.2 hb.2⟩
theorem gt_set {a : List Nat} (ha : Gt10 a) {i c : Nat} (hc : c ≤ 65535) : Gt10 (a.set i c) := ⟨by rw [List.length_set]; exact ha.1, step_bd ha.2 hc⟩
theorem told_n (ta : List Nat) : toldM (nT ta) = [3] ++ talR ta 5 := by rw [← talU_R]; rfl
theorem told_n_len (ta : List Nat) : (toldM (nT ta)).length ≤ 26 := by
  rw [told_n, ← talU_R]
  have := talU_len ta 5
  simp only [List.length_append, List.length_cons, List.length_nil]
  omega
theorem told_n_inj {a b : List Nat} (ha : Gt10 a) (hb : Gt10 b) : toldM (nT a) = toldM (nT b) ↔ a = b := by
  refine ⟨fun h => ?_, fun h => by rw [h]⟩
  have hz : 1 ≤ (tS (nT a)).size := by rw [tS_size, told_n]; simp
  have d1 : (tS (nT a)).data.toList.drop 1 = talR a 5 := by rw [tS_list, told_n]; rfl
  have d2 : (tS (nT a)).data.toList.drop 1 = talR b 5 := by rw [tS_list, h, told_n]; rfl
  have q1 := tl_back (s := tS (nT a)) ha.1 ha.2 5 _ 1 (Nat.le_refl _) hz d1 (Nat.le_refl _)
  have q2 := tl_back (s := tS (nT a)) hb.1 hb.2 5 _ 1 (Nat.le_refl _) hz d2 (Nat.le_refl _)
  rw [show pt a (5 - 5) = pt b (5 - 5) from rfl, q2] at q1
  exact (congrArg Prod.fst q1).symm
theorem jn_n (a b : List Nat) : jnT (nT a) (nT b) = nT (tjn a b) := rfl
theorem pl_n (a : List Nat) : Pl (nT a) := ⟨.inr (.inr (.inl rfl)), rfl, by simp [nT]⟩
theorem jo_n {a b : List Nat} (ha : Gt10 a) (hb : Gt10 b) : Jo (tS (nT a)) (tS (nT b)) (nT a) (nT b) :=
  ⟨takes_n ha.1 ha.2, takes_n hb.1 hb.2, rfl, pl_n a, pl_n b, rfl, by rw [jn_n]; have := told_n_len (tjn a b); omega⟩
theorem tjn_up {a : List Nat} (ha : a.length = 10) {i c : Nat} (hi : i < 10) (hc : a.getD i 0 ≤ c) : tjn a (a.set i c) = a.set i c := by
  obtain ⟨a0, a1, a2, a3, a4, a5, a6, a7, a8, a9, rfl⟩ := ten ha
  have : i = 0 ∨ i = 1 ∨ i = 2 ∨ i = 3 ∨ i = 4 ∨ i = 5 ∨ i = 6 ∨ i = 7 ∨ i = 8 ∨ i = 9 := by omega
  rcases this with rfl | rfl | rfl | rfl | rfl | rfl | rfl | rfl | rfl | rfl <;> simp [tjn] at hc ⊢ <;> omega
theorem tsm_set {a : List Nat} (ha : a.length = 10) {q : Nat} (hq : q < 5) (mu : Nat) :
    tsm (a.set (2 * q) (a.getD (2 * q) 0 + mu)) 5 = tsm a 5 + mu ∧ tsm (a.set (2 * q + 1) (a.getD (2 * q + 1) 0 + mu)) 5 = tsm a 5 - mu := by
  obtain ⟨a0, a1, a2, a3, a4, a5, a6, a7, a8, a9, rfl⟩ := ten ha
  have : q = 0 ∨ q = 1 ∨ q = 2 ∨ q = 3 ∨ q = 4 := by omega
  rcases this with rfl | rfl | rfl | rfl | rfl <;> simp [tsm] <;> omega
/-- the first two replicas alone counted; the others alone -/
def Lo (a : List Nat) : Prop := ∀ i, 4 ≤ i → a.getD i 0 = 0
def Hi (a : List Nat) : Prop := ∀ i, i < 4 → a.getD i 0 = 0
theorem lo_0 : Lo ta0 := fun i _ => by
  rcases Nat.lt_or_ge i 10 with h | h
  · have : i = 4 ∨ i = 5 ∨ i = 6 ∨ i = 7 ∨ i = 8 ∨ i = 9 := by omega
    rcases this with rfl | rfl | rfl | rfl | rfl | rfl <;> rfl
  · rw [List.getD_eq_getElem?_getD, List.getElem?_eq_none h]; rfl
theorem hi_0 : Hi ta0 := fun i h => by
  have : i = 0 ∨ i = 1 ∨ i = 2 ∨ i = 3 := by omega
  rcases this with rfl | rfl | rfl | rfl <;> rfl
theorem lo_set {a : List Nat} (h : Lo a) {i c : Nat} (hi : i < 4) : Lo (a.set i c) := fun j hj => by
  have := h j hj
  rw [List.getD_eq_getElem?_getD] at this ⊢
  rw [List.getElem?_set, if_neg (by omega)]; exact this
theorem hi_set {a : List Nat} (h : Hi a) {i c : Nat} (hi : 4 ≤ i) : Hi (a.set i c) := fun j hj => by
  have := h j hj
  rw [List.getD_eq_getElem?_getD] at this ⊢
  rw [List.getElem?_set, if_neg (by omega)]; exact this
theorem tsm_jn {a b : List Nat} (ha : a.length = 10) (hb : b.length = 10) (hl : Lo a) (hh : Hi b) : tsm (tjn a b) 5 = tsm a 5 + tsm b 5 := by
  obtain ⟨a0, a1, a2, a3, a4, a5, a6, a7, a8, a9, rfl⟩ := ten ha
  obtain ⟨b0, b1, b2, b3, b4, b5, b6, b7, b8, b9, rfl⟩ := ten hb
  obtain rfl : a4 = 0 := hl 4 (by decide)
  obtain rfl : a5 = 0 := hl 5 (by decide)
  obtain rfl : a6 = 0 := hl 6 (by decide)
  obtain rfl : a7 = 0 := hl 7 (by decide)
  obtain rfl : a8 = 0 := hl 8 (by decide)
  obtain rfl : a9 = 0 := hl 9 (by decide)
  obtain rfl : b0 = 0 := hh 0 (by decide)
  obtain rfl : b1 = 0 := hh 1 (by decide)
  obtain rfl : b2 = 0 := hh 2 (by decide)
  obtain rfl : b3 = 0 := hh 3 (by decide)
  simp [tsm, tjn]
  omega
theorem kFlag (u : World) : Calls Try.prog 44 #[.bool true] u fun e u' => e = .returned (.string ⟨#[1, 1]⟩) ∧ Below u.heap.size u u' := by
  have HTO : Hid (Calls Try.prog 52 #[.agg #[.int .u8 1, .bool true, .slice none 0 0, .int .u16 0, .int .u16 0, .int .u16 0, .int .u16 0, .int .u16 0, .int .u16 0, .int .u16 0, .int .u16 0, .int .u16 0, .int .u16 0, .slice none 0 0]] u fun e w' => e = .returned (.string ⟨#[1, 1]⟩) ∧ Below u.heap.size u w') := told1 (fT true) rfl none 0 none 0 0 0 rfl rfl u ⟨(by decide : (1 : Nat) < 256), Lies.nil _ _, Lies.nil _ _, fun b hb => (by cases hb), fun b hb => (by cases hb), rfl, (by decide : ∀ v ∈ ta0, v < 65536), Nat.le_refl _, Nat.le_refl _, fun _ => rfl, fun _ => rfl, Nat.zero_le _, Nat.zero_le _⟩
  go_enter Try.func44, Try.ntmps44
  go_wp2_with (first
    | (go_at_call 52; refine (unhide HTO).mono ?_; rintro e W2 ⟨rfl, hb⟩; have HB2 := hide hb; clear hb)
    | fail)
  go_ret
  exact ⟨rfl, unhide HB2⟩
set_option maxRecDepth 100000 in
set_option maxHeartbeats 8000000 in
theorem lAlive (u : World) : Calls Try.prog 17 #[] u fun e u' => e = .returned (.bool true) ∧ Below u.heap.size u u' := by
  have HTA := hide kTally
  have hst : stR ta0 2 3 = some [0, 0, 3, 0, 0, 0, 0, 0, 0, 0] := by decide
  have HSP : Hid (∀ w : World, Calls Try.prog 31 #[.string (tS (nT ta0)), .int .u8 2, .int .i16 3] w fun e u' => e = .returned (.tuple #[.string ⟨#[3, 2, 0, 3, 0, 0]⟩, .int .i64 0]) ∧ Below w.heap.size w u') := fun w => by
    have q := (kStepGo ta0 gt_0.1 gt_0.2 2 (by decide) (by decide) 3 (by decide) (by decide) w).1 _ hst
    rw [show tS (nT [0, 0, 3, 0, 0, 0, 0, 0, 0, 0]) = ⟨#[3, 2, 0, 3, 0, 0]⟩ by decide] at q
    exact q
  have HC1 := hide (fun (w : World) => kCorner 4607182418800017408 4611686018427387904 (by decide) (by decide) w)
  have HC2 := hide (fun (w : World) => kCorner 4613937818241073152 13830554455654793216 (by decide) (by decide) w)
  have HC3 := hide (fun (w : World) => kCorner 4613937818241073152 4611686018427387904 (by decide) (by decide) w)
  have HJ := hide (fun (w : World) => kJoin _ _ _ _ (jo_c (x := 4607182418800017408) (y := 4611686018427387904) (z := 4613937818241073152) (w := 13830554455654793216) (by decide) (by decide) (by decide) (by decide)) w)
  rw [jn_c, show grt 4607182418800017408 4613937818241073152 = 4613937818241073152 by decide, show grt 4611686018427387904 13830554455654793216 = 4611686018427387904 by decide] at HJ
  have HK : Hid (∀ w : World, Calls Try.prog 13 #[.string (tS (cT 4613937818241073152 4611686018427387904))] w fun z u' => z = .returned (.int .u8 5) ∧ Below w.heap.size w u') := fun w => kKind (tS (cT 4613937818241073152 4611686018427387904)) (some (cT 4613937818241073152 4611686018427387904)) (takes_c (by decide) (by decide)) w
  have HFL := hide kFlag
  generalize tS (nT ta0) = T0 at *
  generalize tS (cT 4607182418800017408 4611686018427387904) = C1 at *
  generalize tS (cT 4613937818241073152 13830554455654793216) = C2 at *
  generalize tS (cT 4613937818241073152 4611686018427387904) = C3 at *
  clear hst
  have hq1 : (C3.toList == C3.toList) = true := by simp
  have HB : Hid (Below u.heap.size u u) := Below.refl _ _
  go_enter Try.func17, Try.ntmps17
  go_wp2_with (first
    | (go_at_call 33; (with_reducible refine (unhide HTA _).mono ?_); rintro e Wn ⟨rfl, hb⟩; replace HB := hide (Below.trans (unhide HB) (hb.mono (unhide HB).size)); clear hb)
    | (go_at_call 31; (with_reducible refine (unhide HSP _).mono ?_); rintro e Wn ⟨rfl, hb⟩; replace HB := hide (Below.trans (unhide HB) (hb.mono (unhide HB).size)); clear hb)
    | (go_at_call 29; (with_reducible refine (unhide HC1 _).mono ?_); rintro e Wn ⟨rfl, hb⟩; replace HB := hide (Below.trans (unhide HB) (hb.mono (unhide HB).size)); clear hb)
    | (go_at_call 29; (with_reducible refine (unhide HC2 _).mono ?_); rintro e Wn ⟨rfl, hb⟩; replace HB := hide (Below.trans (unhide HB) (hb.mono (unhide HB).size)); clear hb)
    | (go_at_call 29; (with_reducible refine (unhide HC3 _).mono ?_); rintro e Wn ⟨rfl, hb⟩; replace HB := hide (Below.trans (unhide HB) (hb.mono (unhide HB).size)); clear hb)
    | (go_at_call 11; (with_reducible refine (unhide HJ _).mono ?_); rintro e Wn ⟨rfl, hb⟩; replace HB := hide (Below.trans (unhide HB) (hb.mono (unhide HB).size)); clear hb)
    | (go_at_call 13; (with_reducible refine (unhide HK _).mono ?_); rintro e Wn ⟨rfl, hb⟩; replace HB := hide (Below.trans (unhide HB) (hb.mono (unhide HB).size)); clear hb)
    | (go_at_call 44; (with_reducible refine (unhide HFL _).mono ?_); rintro e Wn ⟨rfl, hb⟩; replace HB := hide (Below.trans (unhide HB) (hb.mono (unhide HB).size)); clear hb)
    | fail)
  go_ret
  exact ⟨rfl, unhide HB⟩
end Go.Proofs.Ytpepgealeanecaa
