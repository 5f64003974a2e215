/- The walk of BitmapNone. -/
import Derived.Test.YtloealcaagfehaaDoorBno
namespace Go.Proofs.YtloealcaagfehaaDoor
open Go.RowKit

set_option maxRecDepth 100000 in
set_option maxHeartbeats 4000000 in
theorem none_walk (w : World) : Calls Tryd.prog 7 #[] w fun e w' => e = .returned (.bool true) ∧ Below w.heap.size w w' := by
  obtain ⟨M, hM⟩ : ∃ M : Nat, M = 65536 := ⟨_, rfl⟩
  obtain ⟨A, hA⟩ : ∃ A : Nat, A = 2 ^ (M - 1) := ⟨_, rfl⟩
  have hcount : Bit.count A M = 1 := by rw [hA, Bit.count_pow, if_pos (by omega)]
  have HN1 : Hid (∀ u, Calls Tryd.prog 28 #[.int .i64 65536] u fun e w' => ∃ p q, e = .returned (.tuple #[.pointer (some ⟨p, 0, none⟩), .int .i64 0]) ∧ u.heap.size ≤ p ∧ u.heap.size ≤ q ∧ Bm w' p q M 0 ∧ Below u.heap.size u w') := fun u => by
    have h := bNew M (by omega) u
    rw [hM] at h ⊢
    exact h
  have HPu : Hid (∀ u p q, Bm u p q M 0 → Calls Tryd.prog 24 #[.pointer (some ⟨p, 0, none⟩), .int .i64 65535] u fun e w' => e = .returned (.int .i64 0) ∧ Bm w' p q M A ∧ U1 u w' q) := fun u p q h => by
    have h := bPut h (M - 1) (by omega)
    rw [← hA, Nat.zero_or] at h
    have e : ((M - 1 : Nat) : Int) = 65535 := by omega
    rw [e] at h
    exact h
  have HLe : Hid (∀ u p q, Bm u p q M 0 → Calls Tryd.prog 11 #[.pointer (some ⟨p, 0, none⟩)] u fun e w' => e = .returned (.int .i64 65536) ∧ w' = u) := fun u p q h => by
    have h := bLen h
    have e : ((M : Nat) : Int) = 65536 := by omega
    rw [e] at h
    exact h
  have HCo : Hid (∀ u p q, Bm u p q M A → Calls Tryd.prog 21 #[.pointer (some ⟨p, 0, none⟩)] u fun e w' => e = .returned (.int .i64 1) ∧ w' = u) := fun u p q h => by
    have h := bCount h
    rw [hcount] at h
    exact h
  have HTo : Hid (∀ u p q, Bm u p q 0 0 → Calls Tryd.prog 9 #[.pointer (some ⟨p, 0, none⟩)] u fun e w' => e = .returned (.string ⟨#[]⟩) ∧ Below u.heap.size u w') := fun u p q h => by
    have h := bTold h
    exact h
  have HM : Hid (65536 = M) := hM.symm
  clear hA hcount hM
  have HK : Hid (Ss w w []) := Ss.nil w
  go_enter Tryd.func7, Tryd.ntmps7
  go_wp2_with fail
  refine (bNextNil _ _).mono ?_
  rintro e w1 ⟨rfl, hw⟩
  obtain rfl := hw.symm
  clear hw
  go_wp2_with fail
  refine (bClearNil _).mono ?_
  rintro e w2 ⟨rfl, hw⟩
  obtain rfl := hw.symm
  clear hw
  go_wp2_with fail
  refine (bPutNil _ _).mono ?_
  rintro e w3 ⟨rfl, hw⟩
  obtain rfl := hw.symm
  clear hw
  go_wp2_with fail
  refine (bTakeNil _ _).mono ?_
  rintro e w4 ⟨rfl, hw⟩
  obtain rfl := hw.symm
  clear hw
  go_wp2_with fail
  refine (bFillNil _ _ _).mono ?_
  rintro e w5 ⟨rfl, hw⟩
  obtain rfl := hw.symm
  clear hw
  go_wp2_with fail
  refine (bOrNone _ _).mono ?_
  rintro e w6 ⟨rfl, hw⟩
  obtain rfl := hw.symm
  clear hw
  go_wp2_with fail
  refine (bAndNone _ _).mono ?_
  rintro e w7 ⟨rfl, hw⟩
  obtain rfl := hw.symm
  clear hw
  go_wp2_with fail
  refine (bMinusNone _ _).mono ?_
  rintro e w8 ⟨rfl, hw⟩
  obtain rfl := hw.symm
  clear hw
  go_wp2_with fail
  refine (bHasNil _ _).mono ?_
  rintro e w9 ⟨rfl, hw⟩
  obtain rfl := hw.symm
  clear hw
  go_wp2_with fail
  refine (bCountNil _).mono ?_
  rintro e w10 ⟨rfl, hw⟩
  obtain rfl := hw.symm
  clear hw
  go_wp2_with fail
  refine (lGoneNil _).mono ?_
  rintro e w11 ⟨rfl, hb⟩
  have HK' : Hid (Ss w w11 []) := (unhide HK).below hb
  clear HK hb
  have HK := hide (unhide HK')
  clear HK'
  go_wp2_with fail
  refine (bCopyNil _).mono ?_
  rintro e w12 ⟨rfl, hw⟩
  obtain rfl := hw.symm
  clear hw
  go_wp2_with fail
  refine (bSameNone _ _).mono ?_
  rintro e w13 ⟨rfl, hb⟩
  have HK' : Hid (Ss w w13 []) := (unhide HK).more hb
  clear HK hb
  have HK := hide (unhide HK')
  clear HK'
  go_wp2_with fail
  refine (bToldNil _).mono ?_
  rintro e w14 ⟨rfl, hw⟩
  obtain rfl := hw.symm
  clear hw
  go_wp2_with fail
  refine (bLenNil _).mono ?_
  rintro e w15 ⟨rfl, hw⟩
  obtain rfl := hw.symm
  clear hw
  go_wp2_with fail
  refine (unhide HN1 _).mono ?_
  rintro e w16 ⟨pa, qa, rfl, hp, hq, hm, hb⟩
  have HK' : Hid (Ss w w16 [⟨pa, qa, M, 0⟩]) := (unhide HK).push hb hp hq hm
  clear HK hp hq hm hb
  have HK := hide (unhide HK')
  clear HK'
  go_wp2_with fail
  refine (bNewBad _ (.inr (by decide)) _).mono ?_
  rintro e w17 ⟨rfl, hw⟩
  obtain rfl := hw.symm
  clear hw
  go_wp2_with fail
  refine (bNewBad _ (.inl (by decide)) _).mono ?_
  rintro e w18 ⟨rfl, hw⟩
  obtain rfl := hw.symm
  clear hw
  go_wp2_with fail
  refine (bNew 0 (by decide) _).mono ?_
  rintro e w19 ⟨pd, qd, rfl, hp, hq, hm, hb⟩
  have HK' : Hid (Ss w w19 [⟨pa, qa, M, 0⟩, ⟨pd, qd, 0, 0⟩]) := (unhide HK).push hb hp hq hm
  clear HK hp hq hm hb
  have HK := hide (unhide HK')
  clear HK'
  go_wp2_with fail
  refine (unhide HLe _ _ _ (show Bm _ pa qa M (0) from (unhide HK).at 0 rfl)).mono ?_
  rintro e w20 ⟨rfl, hw⟩
  obtain rfl := hw.symm
  clear hw
  go_wp2_with fail
  refine (unhide HPu _ _ _ (show Bm _ pa qa M (0) from (unhide HK).at 0 rfl)).mono ?_
  rintro e w21 ⟨rfl, hm, hu⟩
  have HK' : Hid (Ss w w21 [⟨pa, qa, M, A⟩, ⟨pd, qd, 0, 0⟩]) := (unhide HK).set 0 rfl hm hu
  clear HK hm hu
  have HK := hide (unhide HK')
  clear HK'
  go_wp2_with fail
  refine (bPutOut (show Bm _ pa qa M (A) from (unhide HK).at 0 rfl) _ (.inr (by have := unhide HM; omega))).mono ?_
  rintro e w22 ⟨rfl, hw⟩
  obtain rfl := hw.symm
  clear hw
  go_wp2_with fail
  refine (unhide HCo _ _ _ (show Bm _ pa qa M (A) from (unhide HK).at 0 rfl)).mono ?_
  rintro e w23 ⟨rfl, hw⟩
  obtain rfl := hw.symm
  clear hw
  go_wp2_with fail
  refine (bPutOut (show Bm _ pd qd 0 (0) from (unhide HK).at 1 rfl) _ (.inr (by decide))).mono ?_
  rintro e w24 ⟨rfl, hw⟩
  obtain rfl := hw.symm
  clear hw
  go_wp2_with fail
  refine (unhide HTo _ _ _ (show Bm _ pd qd 0 (0) from (unhide HK).at 1 rfl)).mono ?_
  rintro e w25 ⟨rfl, hb⟩
  have HK' : Hid (Ss w w25 [⟨pa, qa, M, A⟩, ⟨pd, qd, 0, 0⟩]) := (unhide HK).below hb
  clear HK hb
  have HK := hide (unhide HK')
  clear HK'
  go_wp2_with fail
  refine (bFill (show Bm _ pd qd 0 (0) from (unhide HK).at 1 rfl) 0 0 (by decide) (by decide)).mono ?_
  rintro e w26 ⟨rfl, hm, hu⟩
  have HK' : Hid (Ss w w26 [⟨pa, qa, M, A⟩, ⟨pd, qd, 0, 0 ||| Bit.span 0 0⟩]) := (unhide HK).set 1 rfl hm hu
  clear HK hm hu
  have HK := hide (unhide HK')
  clear HK'
  go_wp2_with fail
  refine (bMinusBad (show Bm _ pa qa M (A) from (unhide HK).at 0 rfl) (show Bm _ pd qd 0 (0 ||| Bit.span 0 0) from (unhide HK).at 1 rfl) (by have := unhide HM; omega)).mono ?_
  rintro e w27 ⟨rfl, hb⟩
  have HK' : Hid (Ss w w27 [⟨pa, qa, M, A⟩, ⟨pd, qd, 0, 0 ||| Bit.span 0 0⟩]) := (unhide HK).more hb
  clear HK hb
  have HK := hide (unhide HK')
  clear HK'
  go_wp2
  go_ret
  exact ⟨rfl, (unhide HK).bel⟩
end Go.Proofs.YtloealcaagfehaaDoor
