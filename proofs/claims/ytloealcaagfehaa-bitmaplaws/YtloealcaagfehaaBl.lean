/- BitmapLaws: or, and, minus, number by number, and how many. -/
import Derived.Test.YtloealcaagfehaaBs
import Derived.Test.YtloealcaagfehaaBpc
import Derived.Test.YtloealcaagfehaaBk
import Derived.Test.YtloealcaagfehaaBy
namespace Go.Proofs.Ytloealcaagfehaa
open Go.RowKit

namespace Bit
/-- whether any whole number is in -/
def has (S n : Nat) (x : Int) : Bool := decide (0 ≤ x) && (decide (x < (n : Int)) && S.testBit x.toNat)
theorem has_or (S T n : Nat) (x : Int) : has (S ||| T) n x = (has S n x || has T n x) := by
  simp only [has, Nat.testBit_or]
  cases decide (0 ≤ x) <;> cases decide (x < (n : Int)) <;> cases S.testBit x.toNat <;> cases T.testBit x.toNat <;> rfl
theorem has_and (S T n : Nat) (x : Int) : has (S &&& T) n x = (has S n x && has T n x) := by
  simp only [has, Nat.testBit_and]
  cases decide (0 ≤ x) <;> cases decide (x < (n : Int)) <;> cases S.testBit x.toNat <;> cases T.testBit x.toNat <;> rfl
theorem has_minus (S T n : Nat) (x : Int) : has (minus S T) n x = (has S n x && !has T n x) := by
  simp only [has, minus_bit]
  cases decide (0 ≤ x) <;> cases decide (x < (n : Int)) <;> cases S.testBit x.toNat <;> cases T.testBit x.toNat <;> rfl
end Bit
theorem bHasAny {p q n S : Nat} {w : World} (h : Bm w p q n S) (x : Int) : Calls Try.prog 12 #[.pointer (some ⟨p, 0, none⟩), .int .i64 x] w fun e w' => e = .returned (.bool (Bit.has S n x)) ∧ w' = w := by
  by_cases h0 : x < 0 ∨ (n : Int) ≤ x
  · have e : Bit.has S n x = false := by
      rw [Bit.has]
      rcases h0 with h0 | h0
      · rw [decide_eq_false (by omega)]; rfl
      · rw [decide_eq_false (p := x < (n : Int)) (by omega), Bool.false_and, Bool.and_false]
    rw [e]
    exact bHasOut h x h0
  · obtain ⟨k, rfl⟩ : ∃ k : Nat, x = (k : Int) := ⟨x.toNat, by omega⟩
    have e : Bit.has S n (k : Int) = S.testBit k := by
      rw [Bit.has, decide_eq_true (p := (0 : Int) ≤ (k : Int)) (by omega), decide_eq_true (p := (k : Int) < (n : Int)) (by omega)]
      rfl
    rw [e]
    exact bHas h k (by omega)
set_option maxRecDepth 100000 in
set_option maxHeartbeats 4000000 in
theorem laws_walk (x : Int) (xs ys : List Int) (ao bo : Option Addr) (c1 c2 : Nat) (w : World) (hl : xs.length ≤ 9223372036854775807) (hl2 : ys.length ≤ 9223372036854775807) (hx : LiesI w ao xs) (hy : LiesI w bo ys) :
    Calls Try.prog 3 #[.int .i64 x, .slice ao xs.length c1, .slice bo ys.length c2] w fun e w' => e = .returned (.bool true) ∧ Below w.heap.size w w' := by
  obtain ⟨n, hn⟩ : ∃ n, n = (x % 2001).toNat := ⟨_, rfl⟩
  have hn2 : n < 2001 := by omega
  have HO1 := hide (fun u => lOf x xs ao c1 u hl)
  have HO2 := hide (fun u => lOf x ys bo c2 u hl2)
  have HO3 := hide (fun u => lOf ((n : Int) + 1) ys bo c2 u hl2)
  have HBo := hide (fun u => lBound x u)
  rw [← hn] at HO1 HO2 HBo
  obtain ⟨n', hn'⟩ : ∃ n', n' = (((n : Int) + 1) % 2001).toNat := ⟨_, rfl⟩
  rw [← hn'] at HO3
  have HNE : Hid (n ≠ n') := by show n ≠ n'; omega
  have hrem : ((n : Int) + 1) % 2001 = (n' : Int) := by omega
  have HX := hide hx
  have HY := hide hy
  clear hx hy hn hl hl2 hn'
  obtain ⟨lx, hlx⟩ : ∃ lx, lx = xs.length := ⟨_, rfl⟩
  obtain ⟨ly, hly⟩ : ∃ ly, ly = ys.length := ⟨_, rfl⟩
  rw [← hlx] at HO1
  rw [← hly] at HO2 HO3
  rw [← hlx, ← hly]
  clear hlx hly
  generalize setOf n xs = A at *
  generalize setOf n ys = B at *
  generalize setOf n' ys = C at *
  have HK : Hid (Ss w w []) := Ss.nil w
  go_enter Try.func3, Try.ntmps3
  go_wp2_with fail
  refine (unhide HO1 _ ((unhide HX).keep (unhide HK).bel (Nat.le_refl _))).mono ?_
  rintro e w1 ⟨pa, qa, rfl, hp, hq, hm, hb⟩
  have HK' : Hid (Ss w w1 [⟨pa, qa, n, A⟩]) := (unhide HK).push hb hp hq hm
  clear HK hp hq hm hb
  have HK := hide (unhide HK')
  clear HK'
  go_wp2_with fail
  refine (unhide HO2 _ ((unhide HY).keep (unhide HK).bel (Nat.le_refl _))).mono ?_
  rintro e w2 ⟨pb, qb, rfl, hp, hq, hm, hb⟩
  have HK' : Hid (Ss w w2 [⟨pa, qa, n, A⟩, ⟨pb, qb, n, B⟩]) := (unhide HK).push hb hp hq hm
  clear HK hp hq hm hb
  have HK := hide (unhide HK')
  clear HK'
  go_wp2_with fail
  refine (bCopy (show Bm _ pa qa n (A) from (unhide HK).at 0 rfl)).mono ?_
  rintro e w3 ⟨po, qo, rfl, hp, hq, hm, hb⟩
  have HK' : Hid (Ss w w3 [⟨pa, qa, n, A⟩, ⟨pb, qb, n, B⟩, ⟨po, qo, n, A⟩]) := (unhide HK).push hb hp hq hm
  clear HK hp hq hm hb
  have HK := hide (unhide HK')
  clear HK'
  go_wp2_with fail
  refine (bCopy (show Bm _ pa qa n (A) from (unhide HK).at 0 rfl)).mono ?_
  rintro e w4 ⟨pd, qd, rfl, hp, hq, hm, hb⟩
  have HK' : Hid (Ss w w4 [⟨pa, qa, n, A⟩, ⟨pb, qb, n, B⟩, ⟨po, qo, n, A⟩, ⟨pd, qd, n, A⟩]) := (unhide HK).push hb hp hq hm
  clear HK hp hq hm hb
  have HK := hide (unhide HK')
  clear HK'
  go_wp2_with fail
  refine (bCopy (show Bm _ pa qa n (A) from (unhide HK).at 0 rfl)).mono ?_
  rintro e w5 ⟨pm, qm, rfl, hp, hq, hm, hb⟩
  have HK' : Hid (Ss w w5 [⟨pa, qa, n, A⟩, ⟨pb, qb, n, B⟩, ⟨po, qo, n, A⟩, ⟨pd, qd, n, A⟩, ⟨pm, qm, n, A⟩]) := (unhide HK).push hb hp hq hm
  clear HK hp hq hm hb
  have HK := hide (unhide HK')
  clear HK'
  go_wp2_with fail
  refine (bOr (show Bm _ po qo n (A) from (unhide HK).at 2 rfl) (show Bm _ pb qb n (B) from (unhide HK).at 1 rfl) (fun e => absurd e (show qb ≠ qo from ((unhide HK).apart (i := 2) (j := 1) rfl rfl (by decide)).2))).mono ?_
  rintro e w6 ⟨rfl, hm, hu⟩
  have HK' : Hid (Ss w w6 [⟨pa, qa, n, A⟩, ⟨pb, qb, n, B⟩, ⟨po, qo, n, A ||| B⟩, ⟨pd, qd, n, A⟩, ⟨pm, qm, n, A⟩]) := (unhide HK).set 2 rfl hm hu
  clear HK hm hu
  have HK := hide (unhide HK')
  clear HK'
  go_wp2_with fail
  refine (bAnd (show Bm _ pd qd n (A) from (unhide HK).at 3 rfl) (show Bm _ pb qb n (B) from (unhide HK).at 1 rfl) (fun e => absurd e (show qb ≠ qd from ((unhide HK).apart (i := 3) (j := 1) rfl rfl (by decide)).2))).mono ?_
  rintro e w7 ⟨rfl, hm, hu⟩
  have HK' : Hid (Ss w w7 [⟨pa, qa, n, A⟩, ⟨pb, qb, n, B⟩, ⟨po, qo, n, A ||| B⟩, ⟨pd, qd, n, A &&& B⟩, ⟨pm, qm, n, A⟩]) := (unhide HK).set 3 rfl hm hu
  clear HK hm hu
  have HK := hide (unhide HK')
  clear HK'
  go_wp2_with fail
  refine (bMinus (show Bm _ pm qm n (A) from (unhide HK).at 4 rfl) (show Bm _ pb qb n (B) from (unhide HK).at 1 rfl) (fun e => absurd e (show qb ≠ qm from ((unhide HK).apart (i := 4) (j := 1) rfl rfl (by decide)).2))).mono ?_
  rintro e w8 ⟨rfl, hm, hu⟩
  have HK' : Hid (Ss w w8 [⟨pa, qa, n, A⟩, ⟨pb, qb, n, B⟩, ⟨po, qo, n, A ||| B⟩, ⟨pd, qd, n, A &&& B⟩, ⟨pm, qm, n, Bit.minus A B⟩]) := (unhide HK).set 4 rfl hm hu
  clear HK hm hu
  have HK := hide (unhide HK')
  clear HK'
  go_wp2_with fail
  go_loopw [12] (fun i wr => ∃ k : Nat, k ≤ n + 2 ∧ i = .int .i64 ((k : Int) - 1) ∧ Hid (Ss w wr [⟨pa, qa, n, A⟩, ⟨pb, qb, n, B⟩, ⟨po, qo, n, A ||| B⟩, ⟨pd, qd, n, A &&& B⟩, ⟨pm, qm, n, Bit.minus A B⟩])) (fun i _ => n + 2 - (intOf i + 1).toNat)
  case atStart => exact ⟨0, Nat.zero_le _, rfl, hide (unhide HK)⟩
  case round =>
    clear HK
    obtain ⟨k, hk, rfl, HK⟩ := hrel
    obtain ⟨z, hz⟩ : ∃ z : Int, z = (k : Int) - 1 := ⟨_, rfl⟩
    rw [← hz]
    by_cases hlt : k < n + 2
    · have hzn : z ≤ (n : Int) := by omega
      have hz0 : -1 ≤ z := by omega
      have HZ := hide hz
      clear hz
      have HE1 := hide (Bit.has_or A B n z)
      have HE2 := hide (Bit.has_and A B n z)
      have HE3 := hide (Bit.has_minus A B n z)
      have HH := hide (fun u p q S (h : Bm u p q n S) => bHasAny h z)
      obtain ⟨bx, hbx⟩ : ∃ bx, bx = Bit.has A n z := ⟨_, rfl⟩
      obtain ⟨bb, hbb⟩ : ∃ bb, bb = Bit.has B n z := ⟨_, rfl⟩
      have HA1 := hide (unhide HH _ _ _ _ (show Bm _ pa qa n (A) from (unhide HK).at 0 rfl))
      have HA2 := hide (unhide HH _ _ _ _ (show Bm _ pb qb n (B) from (unhide HK).at 1 rfl))
      have HA3 := hide (unhide HH _ _ _ _ (show Bm _ po qo n (A ||| B) from (unhide HK).at 2 rfl))
      have HA4 := hide (unhide HH _ _ _ _ (show Bm _ pd qd n (A &&& B) from (unhide HK).at 3 rfl))
      have HA5 := hide (unhide HH _ _ _ _ (show Bm _ pm qm n (Bit.minus A B) from (unhide HK).at 4 rfl))
      rw [← hbx] at HA1
      rw [← hbb] at HA2
      rw [unhide HE1, ← hbx, ← hbb] at HA3
      rw [unhide HE2, ← hbx, ← hbb] at HA4
      rw [unhide HE3, ← hbx, ← hbb] at HA5
      clear HE1 HE2 HE3 HH hbx hbb
      go_wp2_with fail
      refine (unhide HBo _).mono ?_
      rintro e w9 ⟨rfl, hw⟩
      obtain rfl := hw.symm
      clear hw
      go_wp2_with fail
      refine (unhide HA1).mono ?_
      rintro e w10 ⟨rfl, hw⟩
      obtain rfl := hw.symm
      clear hw
      go_wp2_with fail
      refine (unhide HA2).mono ?_
      rintro e w11 ⟨rfl, hw⟩
      obtain rfl := hw.symm
      clear hw
      cases bx <;> cases bb
      all_goals
        go_wp2_with fail
        refine (unhide HA3).mono ?_
        rintro e w12 ⟨rfl, hw⟩
        obtain rfl := hw.symm
        clear hw
        go_wp2_with fail
        refine (unhide HA4).mono ?_
        rintro e w13 ⟨rfl, hw⟩
        obtain rfl := hw.symm
        clear hw
        go_wp2_with fail
        refine (unhide HA5).mono ?_
        rintro e w14 ⟨rfl, hw⟩
        obtain rfl := hw.symm
        clear hw
        go_wp2
        go_roundw
        case rel => exact ⟨k + 1, by omega, by have := unhide HZ; subst this; go_num, hide (unhide HK)⟩
        case measure => have := unhide HZ; simp [intOf]; omega
    · have hzn : ¬ z ≤ (n : Int) := by omega
      clear hz hlt hk
      go_wp2_with fail
      refine (unhide HBo _).mono ?_
      rintro e w15 ⟨rfl, hw⟩
      obtain rfl := hw.symm
      clear hw
      go_wp2_with fail
      refine (bCopy (show Bm _ pa qa n (A) from (unhide HK).at 0 rfl)).mono ?_
      rintro e w16 ⟨ps, qs, rfl, hp, hq, hm, hb⟩
      have HK' : Hid (Ss w w16 [⟨pa, qa, n, A⟩, ⟨pb, qb, n, B⟩, ⟨po, qo, n, A ||| B⟩, ⟨pd, qd, n, A &&& B⟩, ⟨pm, qm, n, Bit.minus A B⟩, ⟨ps, qs, n, A⟩]) := (unhide HK).push hb hp hq hm
      clear HK hp hq hm hb
      have HK := hide (unhide HK')
      clear HK'
      obtain ⟨co, hco⟩ : ∃ c, c = Bit.count (A ||| B) n := ⟨_, rfl⟩
      obtain ⟨cd, hcd⟩ : ∃ c, c = Bit.count (A &&& B) n := ⟨_, rfl⟩
      obtain ⟨cm, hcm⟩ : ∃ c, c = Bit.count (Bit.minus A B) n := ⟨_, rfl⟩
      obtain ⟨ca, hca⟩ : ∃ c, c = Bit.count A n := ⟨_, rfl⟩
      obtain ⟨cb, hcb⟩ : ∃ c, c = Bit.count B n := ⟨_, rfl⟩
      have e1 := Bit.count_or_and A B n
      have e2 := Bit.count_minus A B n
      have l1 := Bit.count_le A n
      have l2 := Bit.count_le B n
      rw [← hco, ← hcd, ← hca, ← hcb] at e1
      rw [← hcm, ← hcd, ← hca] at e2
      rw [← hca] at l1
      rw [← hcb] at l2
      have HC2 := hide (bCount (show Bm _ po qo n (A ||| B) from (unhide HK).at 2 rfl))
      have HC3 := hide (bCount (show Bm _ pd qd n (A &&& B) from (unhide HK).at 3 rfl))
      have HC4 := hide (bCount (show Bm _ pm qm n (Bit.minus A B) from (unhide HK).at 4 rfl))
      have HC0 := hide (bCount (show Bm _ pa qa n (A) from (unhide HK).at 0 rfl))
      have HC1 := hide (bCount (show Bm _ pb qb n (B) from (unhide HK).at 1 rfl))
      simp only [← hco] at HC2
      simp only [← hcd] at HC3
      simp only [← hcm] at HC4
      simp only [← hca] at HC0
      simp only [← hcb] at HC1
      clear hco hcd hcm hca hcb
      have hw1 : IntKind.i64.wrap ((co : Int) + (cd : Int)) = ((ca + cb : Nat) : Int) := by rw [wrap_small _ (by omega) (by omega)]; omega
      have hw2 : IntKind.i64.wrap ((ca : Int) + (cb : Int)) = ((ca + cb : Nat) : Int) := by rw [wrap_small _ (by omega) (by omega)]; omega
      have hw3 : IntKind.i64.wrap ((cm : Int) + (cd : Int)) = (ca : Int) := by rw [wrap_small _ (by omega) (by omega)]; omega
      generalize ca + cb = cs at *
      clear e1 e2 l1 l2
      go_wp2_with fail
      refine (unhide HC2).mono ?_
      rintro e w17 ⟨rfl, hw⟩
      obtain rfl := hw.symm
      clear hw
      go_wp2_with fail
      refine (unhide HC3).mono ?_
      rintro e w18 ⟨rfl, hw⟩
      obtain rfl := hw.symm
      clear hw
      go_wp2_with fail
      refine (unhide HC0).mono ?_
      rintro e w19 ⟨rfl, hw⟩
      obtain rfl := hw.symm
      clear hw
      go_wp2_with fail
      refine (unhide HC1).mono ?_
      rintro e w20 ⟨rfl, hw⟩
      obtain rfl := hw.symm
      clear hw
      go_wp2_with fail
      refine (unhide HC4).mono ?_
      rintro e w21 ⟨rfl, hw⟩
      obtain rfl := hw.symm
      clear hw
      go_wp2_with fail
      refine (unhide HC3).mono ?_
      rintro e w22 ⟨rfl, hw⟩
      obtain rfl := hw.symm
      clear hw
      go_wp2_with fail
      refine (unhide HC0).mono ?_
      rintro e w23 ⟨rfl, hw⟩
      obtain rfl := hw.symm
      clear hw
      clear HC0 HC1 HC2 HC3 HC4 hw1 hw2 hw3
      go_wp2_with fail
      refine (unhide HO2 _ ((unhide HY).keep (unhide HK).bel (Nat.le_refl _))).mono ?_
      rintro e w24 ⟨pt, qt, rfl, hp, hq, hm, hb⟩
      have HK' : Hid (Ss w w24 [⟨pa, qa, n, A⟩, ⟨pb, qb, n, B⟩, ⟨po, qo, n, A ||| B⟩, ⟨pd, qd, n, A &&& B⟩, ⟨pm, qm, n, Bit.minus A B⟩, ⟨ps, qs, n, A⟩, ⟨pt, qt, n, B⟩]) := (unhide HK).push hb hp hq hm
      clear HK hp hq hm hb
      have HK := hide (unhide HK')
      clear HK'
      go_wp2_with fail
      refine (bSame (show Bm _ pb qb n (B) from (unhide HK).at 1 rfl) (show Bm _ pt qt n (B) from (unhide HK).at 6 rfl)).mono ?_
      rintro e w25 ⟨rfl, hb⟩
      have HK' : Hid (Ss w w25 [⟨pa, qa, n, A⟩, ⟨pb, qb, n, B⟩, ⟨po, qo, n, A ||| B⟩, ⟨pd, qd, n, A &&& B⟩, ⟨pm, qm, n, Bit.minus A B⟩, ⟨ps, qs, n, A⟩, ⟨pt, qt, n, B⟩]) := (unhide HK).more hb
      clear HK hb
      have HK := hide (unhide HK')
      clear HK'
      go_wp2_with fail
      refine (unhide HO1 _ ((unhide HX).keep (unhide HK).bel (Nat.le_refl _))).mono ?_
      rintro e w26 ⟨pv, qv, rfl, hp, hq, hm, hb⟩
      have HK' : Hid (Ss w w26 [⟨pa, qa, n, A⟩, ⟨pb, qb, n, B⟩, ⟨po, qo, n, A ||| B⟩, ⟨pd, qd, n, A &&& B⟩, ⟨pm, qm, n, Bit.minus A B⟩, ⟨ps, qs, n, A⟩, ⟨pt, qt, n, B⟩, ⟨pv, qv, n, A⟩]) := (unhide HK).push hb hp hq hm
      clear HK hp hq hm hb
      have HK := hide (unhide HK')
      clear HK'
      go_wp2_with fail
      refine (bSame (show Bm _ pa qa n (A) from (unhide HK).at 0 rfl) (show Bm _ pv qv n (A) from (unhide HK).at 7 rfl)).mono ?_
      rintro e w27 ⟨rfl, hb⟩
      have HK' : Hid (Ss w w27 [⟨pa, qa, n, A⟩, ⟨pb, qb, n, B⟩, ⟨po, qo, n, A ||| B⟩, ⟨pd, qd, n, A &&& B⟩, ⟨pm, qm, n, Bit.minus A B⟩, ⟨ps, qs, n, A⟩, ⟨pt, qt, n, B⟩, ⟨pv, qv, n, A⟩]) := (unhide HK).more hb
      clear HK hb
      have HK := hide (unhide HK')
      clear HK'
      go_wp2_with fail
      refine (bOr (show Bm _ ps qs n (A) from (unhide HK).at 5 rfl) (show Bm _ ps qs n (A) from (unhide HK).at 5 rfl) (fun _ => rfl)).mono ?_
      rintro e w28 ⟨rfl, hm, hu⟩
      rw [Nat.or_self] at hm
      have HK' : Hid (Ss w w28 [⟨pa, qa, n, A⟩, ⟨pb, qb, n, B⟩, ⟨po, qo, n, A ||| B⟩, ⟨pd, qd, n, A &&& B⟩, ⟨pm, qm, n, Bit.minus A B⟩, ⟨ps, qs, n, A⟩, ⟨pt, qt, n, B⟩, ⟨pv, qv, n, A⟩]) := (unhide HK).set 5 rfl hm hu
      clear HK hm hu
      have HK := hide (unhide HK')
      clear HK'
      go_wp2_with fail
      refine (bSame (show Bm _ ps qs n (A) from (unhide HK).at 5 rfl) (show Bm _ pa qa n (A) from (unhide HK).at 0 rfl)).mono ?_
      rintro e w29 ⟨rfl, hb⟩
      have HK' : Hid (Ss w w29 [⟨pa, qa, n, A⟩, ⟨pb, qb, n, B⟩, ⟨po, qo, n, A ||| B⟩, ⟨pd, qd, n, A &&& B⟩, ⟨pm, qm, n, Bit.minus A B⟩, ⟨ps, qs, n, A⟩, ⟨pt, qt, n, B⟩, ⟨pv, qv, n, A⟩]) := (unhide HK).more hb
      clear HK hb
      have HK := hide (unhide HK')
      clear HK'
      go_wp2_with fail
      refine (bAnd (show Bm _ ps qs n (A) from (unhide HK).at 5 rfl) (show Bm _ ps qs n (A) from (unhide HK).at 5 rfl) (fun _ => rfl)).mono ?_
      rintro e w30 ⟨rfl, hm, hu⟩
      rw [Nat.and_self] at hm
      have HK' : Hid (Ss w w30 [⟨pa, qa, n, A⟩, ⟨pb, qb, n, B⟩, ⟨po, qo, n, A ||| B⟩, ⟨pd, qd, n, A &&& B⟩, ⟨pm, qm, n, Bit.minus A B⟩, ⟨ps, qs, n, A⟩, ⟨pt, qt, n, B⟩, ⟨pv, qv, n, A⟩]) := (unhide HK).set 5 rfl hm hu
      clear HK hm hu
      have HK := hide (unhide HK')
      clear HK'
      go_wp2_with fail
      refine (bSame (show Bm _ ps qs n (A) from (unhide HK).at 5 rfl) (show Bm _ pa qa n (A) from (unhide HK).at 0 rfl)).mono ?_
      rintro e w31 ⟨rfl, hb⟩
      have HK' : Hid (Ss w w31 [⟨pa, qa, n, A⟩, ⟨pb, qb, n, B⟩, ⟨po, qo, n, A ||| B⟩, ⟨pd, qd, n, A &&& B⟩, ⟨pm, qm, n, Bit.minus A B⟩, ⟨ps, qs, n, A⟩, ⟨pt, qt, n, B⟩, ⟨pv, qv, n, A⟩]) := (unhide HK).more hb
      clear HK hb
      have HK := hide (unhide HK')
      clear HK'
      go_wp2_with fail
      refine (bMinus (show Bm _ ps qs n (A) from (unhide HK).at 5 rfl) (show Bm _ ps qs n (A) from (unhide HK).at 5 rfl) (fun _ => rfl)).mono ?_
      rintro e w32 ⟨rfl, hm, hu⟩
      rw [Bit.minus_self] at hm
      have HK' : Hid (Ss w w32 [⟨pa, qa, n, A⟩, ⟨pb, qb, n, B⟩, ⟨po, qo, n, A ||| B⟩, ⟨pd, qd, n, A &&& B⟩, ⟨pm, qm, n, Bit.minus A B⟩, ⟨ps, qs, n, 0⟩, ⟨pt, qt, n, B⟩, ⟨pv, qv, n, A⟩]) := (unhide HK).set 5 rfl hm hu
      clear HK hm hu
      have HK := hide (unhide HK')
      clear HK'
      have HC5 := hide (bCount (show Bm _ ps qs n (0) from (unhide HK).at 5 rfl))
      simp only [Bit.count_zero] at HC5
      go_wp2_with fail
      refine (unhide HC5).mono ?_
      rintro e w33 ⟨rfl, hw⟩
      obtain rfl := hw.symm
      clear hw
      clear HC5
      go_wp2_with fail
      refine (unhide HBo _).mono ?_
      rintro e w34 ⟨rfl, hw⟩
      obtain rfl := hw.symm
      clear hw
      go_wp2_with fail
      refine (unhide HO3 _ ((unhide HY).keep (unhide HK).bel (Nat.le_refl _))).mono ?_
      rintro e w35 ⟨pr, qr, rfl, hp, hq, hm, hb⟩
      have HK' : Hid (Ss w w35 [⟨pa, qa, n, A⟩, ⟨pb, qb, n, B⟩, ⟨po, qo, n, A ||| B⟩, ⟨pd, qd, n, A &&& B⟩, ⟨pm, qm, n, Bit.minus A B⟩, ⟨ps, qs, n, 0⟩, ⟨pt, qt, n, B⟩, ⟨pv, qv, n, A⟩, ⟨pr, qr, n', C⟩]) := (unhide HK).push hb hp hq hm
      clear HK hp hq hm hb
      have HK := hide (unhide HK')
      clear HK'
      go_wp2_with fail
      refine (bOrBad (show Bm _ pa qa n (A) from (unhide HK).at 0 rfl) (show Bm _ pr qr n' (C) from (unhide HK).at 8 rfl) (unhide HNE)).mono ?_
      rintro e w36 ⟨rfl, hb⟩
      have HK' : Hid (Ss w w36 [⟨pa, qa, n, A⟩, ⟨pb, qb, n, B⟩, ⟨po, qo, n, A ||| B⟩, ⟨pd, qd, n, A &&& B⟩, ⟨pm, qm, n, Bit.minus A B⟩, ⟨ps, qs, n, 0⟩, ⟨pt, qt, n, B⟩, ⟨pv, qv, n, A⟩, ⟨pr, qr, n', C⟩]) := (unhide HK).more hb
      clear HK hb
      have HK := hide (unhide HK')
      clear HK'
      go_wp2_with fail
      refine (bAndBad (show Bm _ pa qa n (A) from (unhide HK).at 0 rfl) (show Bm _ pr qr n' (C) from (unhide HK).at 8 rfl) (unhide HNE)).mono ?_
      rintro e w37 ⟨rfl, hb⟩
      have HK' : Hid (Ss w w37 [⟨pa, qa, n, A⟩, ⟨pb, qb, n, B⟩, ⟨po, qo, n, A ||| B⟩, ⟨pd, qd, n, A &&& B⟩, ⟨pm, qm, n, Bit.minus A B⟩, ⟨ps, qs, n, 0⟩, ⟨pt, qt, n, B⟩, ⟨pv, qv, n, A⟩, ⟨pr, qr, n', C⟩]) := (unhide HK).more hb
      clear HK hb
      have HK := hide (unhide HK')
      clear HK'
      go_wp2_with fail
      refine (bMinusBad (show Bm _ pa qa n (A) from (unhide HK).at 0 rfl) (show Bm _ pr qr n' (C) from (unhide HK).at 8 rfl) (unhide HNE)).mono ?_
      rintro e w38 ⟨rfl, hb⟩
      have HK' : Hid (Ss w w38 [⟨pa, qa, n, A⟩, ⟨pb, qb, n, B⟩, ⟨po, qo, n, A ||| B⟩, ⟨pd, qd, n, A &&& B⟩, ⟨pm, qm, n, Bit.minus A B⟩, ⟨ps, qs, n, 0⟩, ⟨pt, qt, n, B⟩, ⟨pv, qv, n, A⟩, ⟨pr, qr, n', C⟩]) := (unhide HK).more hb
      clear HK hb
      have HK := hide (unhide HK')
      clear HK'
      go_wp2_with fail
      refine (bOrNil (show Bm _ pa qa n (A) from (unhide HK).at 0 rfl)).mono ?_
      rintro e w39 ⟨rfl, hw⟩
      obtain rfl := hw.symm
      clear hw
      go_wp2_with fail
      refine (unhide HO1 _ ((unhide HX).keep (unhide HK).bel (Nat.le_refl _))).mono ?_
      rintro e w40 ⟨py, qy, rfl, hp, hq, hm, hb⟩
      have HK' : Hid (Ss w w40 [⟨pa, qa, n, A⟩, ⟨pb, qb, n, B⟩, ⟨po, qo, n, A ||| B⟩, ⟨pd, qd, n, A &&& B⟩, ⟨pm, qm, n, Bit.minus A B⟩, ⟨ps, qs, n, 0⟩, ⟨pt, qt, n, B⟩, ⟨pv, qv, n, A⟩, ⟨pr, qr, n', C⟩, ⟨py, qy, n, A⟩]) := (unhide HK).push hb hp hq hm
      clear HK hp hq hm hb
      have HK := hide (unhide HK')
      clear HK'
      go_wp2_with fail
      refine (bSame (show Bm _ pa qa n (A) from (unhide HK).at 0 rfl) (show Bm _ py qy n (A) from (unhide HK).at 9 rfl)).mono ?_
      rintro e w41 ⟨rfl, hb⟩
      have HK' : Hid (Ss w w41 [⟨pa, qa, n, A⟩, ⟨pb, qb, n, B⟩, ⟨po, qo, n, A ||| B⟩, ⟨pd, qd, n, A &&& B⟩, ⟨pm, qm, n, Bit.minus A B⟩, ⟨ps, qs, n, 0⟩, ⟨pt, qt, n, B⟩, ⟨pv, qv, n, A⟩, ⟨pr, qr, n', C⟩, ⟨py, qy, n, A⟩]) := (unhide HK).more hb
      clear HK hb
      have HK := hide (unhide HK')
      clear HK'
      go_wp2_with fail
      refine (bLen (show Bm _ pr qr n' (C) from (unhide HK).at 8 rfl)).mono ?_
      rintro e w42 ⟨rfl, hw⟩
      obtain rfl := hw.symm
      clear hw
      go_wp2_with fail
      refine (unhide HBo _).mono ?_
      rintro e w43 ⟨rfl, hw⟩
      obtain rfl := hw.symm
      clear hw
      go_wp2
      go_ret
      exact ⟨rfl, (unhide HK).bel⟩
end Go.Proofs.Ytloealcaagfehaa
