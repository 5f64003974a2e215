/- The walk of BitmapReads. -/
import Derived.Test.YtloealcaagfehaaDoorRf
import Derived.Test.YtloealcaagfehaaDoorBfo
import Derived.Test.YtloealcaagfehaaDoorBen
import Derived.Test.YtloealcaagfehaaDoorBk
namespace Go.Proofs.YtloealcaagfehaaDoor
open Go.RowKit

theorem rEachNil (w : World) : Calls Tryd.prog 15 #[.pointer none] w fun e w' => e = .returned (.slice none 0 0) ∧ w' = w := by
  go_enter Tryd.func15, Tryd.ntmps15
  go_wp2
  go_loopw [3, 4] (fun v i wr => v = .slice none 0 0 ∧ i = .int .i64 0 ∧ wr = w) (fun _ _ _ => 0)
  case atStart => exact ⟨rfl, rfl, rfl⟩
  case round =>
    obtain ⟨rfl, rfl, rfl⟩ := hrel
    go_wp2_with fail
    refine (rLenNil _).mono ?_
    rintro e w1 ⟨rfl, hw⟩
    obtain rfl := hw.symm
    clear hw
    go_wp2
    go_ret
    exact ⟨rfl, rfl⟩
set_option maxRecDepth 100000 in
set_option maxHeartbeats 4000000 in
theorem reads_walk (x : Int) (s : ByteArray) (w : World) (hs : s.size ≤ 9223372036854775807) (hTb : Tab w) :
    Calls Tryd.prog 4 #[.int .i64 x, .string s] w fun e w' => e = .returned (.bool true) ∧ Below w.heap.size w w' := by
  have HTb := hide hTb
  have h0 : 0 < w.heap.size := World.block_lt_of_cell? _ _ (hTb 0 (by decide))
  have HTwo : Hid (∀ u, Calls Tryd.prog 18 #[.int .i64 9, .string ⟨#[0, 1]⟩] u fun e w' => ∃ p q, e = .returned (.tuple #[.pointer (some ⟨p, 0, none⟩), .int .i64 0]) ∧ u.heap.size ≤ p ∧ u.heap.size ≤ q ∧ Bm w' p q 9 256 ∧ Below u.heap.size u w') := fun u => bFrom 9 (by decide) ⟨#[0, 1]⟩ (by decide) (by decide) u
  clear hTb
  by_cases hx : x < 0 ∨ 65536 < x
  · have HA := hide (fun u => bFromArg x hx s u)
    have HR := hide (fun u => rFromArg x hx s u)
    have HB : Hid (Below w.heap.size w w) := Below.refl _ _
    clear hx
    go_enter Tryd.func4, Tryd.ntmps4
    go_wp2_with fail
    refine (unhide HA _).mono ?_
    rintro e w1 ⟨rfl, hw⟩
    obtain rfl := hw.symm
    clear hw
    go_wp2_with fail
    refine (unhide HR _).mono ?_
    rintro e w2 ⟨rfl, hw⟩
    obtain rfl := hw.symm
    clear hw
    go_wp2_with fail
    refine (unhide HTwo _).mono ?_
    rintro e w3 ⟨pt, qt, rfl, _, _, hmt, hbt⟩
    have HT2 := hide hmt
    have HB2 := hide ((unhide HB).trans (hbt.mono (unhide HB).size))
    clear hmt hbt HB
    go_wp2_with fail
    refine (bToldNil _).mono ?_
    rintro e w4 ⟨rfl, hw⟩
    obtain rfl := hw.symm
    clear hw
    go_wp2_with fail
    refine (rToldNil _).mono ?_
    rintro e w5 ⟨rfl, hw⟩
    obtain rfl := hw.symm
    clear hw
    go_wp2_with fail
    refine (bLenNil _).mono ?_
    rintro e w6 ⟨rfl, hw⟩
    obtain rfl := hw.symm
    clear hw
    go_wp2_with fail
    refine (rLenNil _).mono ?_
    rintro e w7 ⟨rfl, hw⟩
    obtain rfl := hw.symm
    clear hw
    go_wp2_with fail
    refine (lGoneNil _).mono ?_
    rintro e w8 ⟨rfl, hbt⟩
    have HT3 := hide ((unhide HT2).below hbt)
    have HB3 := hide ((unhide HB2).trans (hbt.mono (unhide HB2).size))
    clear hbt HB2 HT2
    go_wp2_with fail
    refine (rEachNil _).mono ?_
    rintro e w9 ⟨rfl, hw⟩
    obtain rfl := hw.symm
    clear hw
    go_wp2_with fail
    refine (lSameI [] [] none none 0 0 _ (by decide) (fun h => absurd h (by decide)) (fun h => absurd h (by decide))).mono ?_
    rintro e w10 ⟨rfl, c, rfl⟩
    have HHs := hide (bHas ((unhide HT3).drewN c) 8 (by decide))
    rw [show (256 : Nat).testBit 8 = true from by decide] at HHs
    have HCo := hide (bCount ((unhide HT3).drewN c))
    rw [show Bit.count 256 9 = 1 from by decide] at HCo
    go_wp2_with fail
    refine (show Calls Tryd.prog 20 #[.pointer (some ⟨pt, 0, none⟩), .int .i64 8] _ _ from unhide HHs).mono ?_
    rintro e w11 ⟨rfl, hw⟩
    obtain rfl := hw.symm
    clear hw
    go_wp2_with fail
    refine (unhide HCo).mono ?_
    rintro e w12 ⟨rfl, hw⟩
    obtain rfl := hw.symm
    clear hw
    go_wp2
    go_ret
    exact ⟨rfl, belowDrewN (unhide HB3) _⟩
  · obtain ⟨n, rfl⟩ : ∃ n : Nat, x = (n : Int) := ⟨x.toNat, by omega⟩
    have hn : n ≤ 65536 := by omega
    have HR := hide (fun u => rFrom n hn s hs u)
    have hsl : s.data.toList.length = s.size := Array.length_toList
    by_cases hg : Bit.Good s.data.toList n
    · have HA := hide (fun u => bFrom n hn s (by rw [← hsl]; exact hg.1) hg.2 u)
      have HG := hide hg
      generalize Bit.num s.data.toList = N at *
      clear hx hsl hg
      go_enter Tryd.func4, Tryd.ntmps4
      go_wp2_with fail
      refine (unhide HA _).mono ?_
      rintro e w13 ⟨pa, qa, rfl, _, _, hma, hba⟩
      have HM1 := hide hma
      have HB1 := hide hba
      clear hma hba HA
      go_wp2_with fail
      refine (unhide HR _).mono ?_
      rintro e w14 ⟨hbr, ⟨_, pb, qb, rfl, _, _, hmr⟩ | ⟨hb, _⟩⟩
      rotate_left
      · exact absurd (unhide HG) hb
      have HM2 := hide ((unhide HM1).below hbr)
      have HR2 := hide hmr
      have HB2 := hide ((unhide HB1).trans (hbr.mono (unhide HB1).size))
      clear hbr hmr HM1 HB1 HR
      go_wp2_with fail
      refine (unhide HTwo _).mono ?_
      rintro e w15 ⟨pt, qt, rfl, _, _, hmt, hbt⟩
      have HM3 := hide ((unhide HM2).below hbt)
      have HR3 := hide ((unhide HR2).below hbt)
      have HT2 := hide hmt
      have HB := hide ((unhide HB2).trans (hbt.mono (unhide HB2).size))
      clear hmt hbt HB2 HM2 HR2
      obtain ⟨ts, hts⟩ : ∃ ts : ByteArray, ts = ⟨(Bit.told N n).toArray⟩ := ⟨_, rfl⟩
      have HTo1 := hide (fun u p q (h : Bm u p q n N) => bTold h)
      have HTo2 := hide (fun u p q (h : Rm u p q n N) => rTold h)
      rw [← hts] at HTo1 HTo2
      clear hts
      go_wp2_with fail
      refine (unhide HTo1 _ _ _ (unhide HM3)).mono ?_
      rintro e w16 ⟨rfl, hbt⟩
      have HM4 := hide ((unhide HM3).below hbt)
      have HR4 := hide ((unhide HR3).below hbt)
      have HT4 := hide ((unhide HT2).below hbt)
      have HB4 := hide ((unhide HB).trans (hbt.mono (unhide HB).size))
      clear HM3 HR3 HT2 HB
      have HM3 := hide (unhide HM4)
      have HR3 := hide (unhide HR4)
      have HT2 := hide (unhide HT4)
      have HB := hide (unhide HB4)
      clear HM4 HR4 HT4 HB4
      clear hbt
      go_wp2_with fail
      refine (unhide HTo2 _ _ _ (unhide HR3)).mono ?_
      rintro e w17 ⟨rfl, hbt⟩
      have HM4 := hide ((unhide HM3).below hbt)
      have HR4 := hide ((unhide HR3).below hbt)
      have HT4 := hide ((unhide HT2).below hbt)
      have HB4 := hide ((unhide HB).trans (hbt.mono (unhide HB).size))
      clear HM3 HR3 HT2 HB
      have HM3 := hide (unhide HM4)
      have HR3 := hide (unhide HR4)
      have HT2 := hide (unhide HT4)
      have HB := hide (unhide HB4)
      clear HM4 HR4 HT4 HB4
      clear hbt HTo1 HTo2
      go_wp2_with fail
      refine (bLen (unhide HM3)).mono ?_
      rintro e w18 ⟨rfl, hw⟩
      obtain rfl := hw.symm
      clear hw
      go_wp2_with fail
      refine (rLen (unhide HR3)).mono ?_
      rintro e w19 ⟨rfl, hw⟩
      obtain rfl := hw.symm
      clear hw
      have HGo := hide (lGone (unhide HM3) ((unhide HTb).below (unhide HB) h0))
      go_wp2_with fail
      refine (unhide HGo).mono ?_
      rintro e wg ⟨v1, rfl, hown1, hbt⟩
      obtain ⟨b1, cb1, rfl, hl1⟩ := lies_of_own hown1
      have HR4 := hide ((unhide HR3).below hbt)
      have HT4 := hide ((unhide HT2).below hbt)
      have HB4 := hide ((unhide HB).trans (hbt.mono (unhide HB).size))
      have HL1 := hide hl1
      clear HM3 HR3 HT2 HB hown1 hl1 hbt HGo
      have HEa := hide (rEach (unhide HR4))
      obtain ⟨E, hE⟩ : ∃ E, E = (Bit.els N n 0).map (fun y => ((y : Nat) : Int)) := ⟨_, rfl⟩
      rw [← hE] at HL1
      rw [← hE]
      have hEl : E.length ≤ 65536 := by
        rw [hE, List.length_map]
        exact Nat.le_trans (Bit.els_length_le N n) hn
      have HEE := hide hE
      clear hE
      obtain ⟨le, hle⟩ : ∃ le, le = E.length := ⟨_, rfl⟩
      rw [← hle]
      have HLE := hide hle
      clear hle
      go_wp2_with fail
      refine (unhide HEa).mono ?_
      rintro e we ⟨v2, rfl, hown2, hbt⟩
      obtain ⟨b2, cb2, rfl, hl2⟩ := lies_of_own hown2
      have hEE := unhide HEE
      rw [← hEE] at hl2
      have hel : ((Bit.els N n 0).map (fun y => ((y : Nat) : Int))).length = le := by rw [← hEE]; exact (unhide HLE).symm
      rw [hel]
      have HT3 := hide ((unhide HT4).below hbt)
      have HB3 := hide ((unhide HB4).trans (hbt.mono (unhide HB4).size))
      have HSm := hide (lSameI E E b1 b2 cb1 cb2 we (by omega) ((unhide HL1).keep hbt (Nat.le_refl _)) hl2)
      rw [decide_eq_true rfl, ← unhide HLE] at HSm
      clear hown2 hl2 hbt hEE hel HR4 HT4 HB4 HL1 HEa hEl
      go_wp2_with fail
      refine (unhide HSm).mono ?_
      rintro e wz ⟨rfl, c, rfl⟩
      clear HSm
      have HHs := hide (bHas ((unhide HT3).drewN c) 8 (by decide))
      rw [show (256 : Nat).testBit 8 = true from by decide] at HHs
      have HCo := hide (bCount ((unhide HT3).drewN c))
      rw [show Bit.count 256 9 = 1 from by decide] at HCo
      go_wp2_with fail
      refine (show Calls Tryd.prog 20 #[.pointer (some ⟨pt, 0, none⟩), .int .i64 8] _ _ from unhide HHs).mono ?_
      rintro e w20 ⟨rfl, hw⟩
      obtain rfl := hw.symm
      clear hw
      go_wp2_with fail
      refine (unhide HCo).mono ?_
      rintro e w21 ⟨rfl, hw⟩
      obtain rfl := hw.symm
      clear hw
      go_wp2
      go_ret
      exact ⟨rfl, belowDrewN (unhide HB3) _⟩
    · have HA : Hid (∀ u, Calls Tryd.prog 18 #[.int .i64 (n : Int), .string s] u fun e w' => e = .returned (.tuple #[.pointer none, .int .i64 4]) ∧ Below u.heap.size u w') := fun u => by
        by_cases h1 : s.size = (n + 7) / 8
        · exact bFromOver n hn s h1 (fun h => hg ⟨by rw [hsl]; exact h1, h⟩) u
        · exact bFromBad n hn s h1 u
      have HG := hide hg
      clear hx hsl hg
      go_enter Tryd.func4, Tryd.ntmps4
      go_wp2_with fail
      refine (unhide HA _).mono ?_
      rintro e wa ⟨rfl, hba⟩
      have HB1 := hide hba
      clear hba HA
      go_wp2_with fail
      refine (unhide HR _).mono ?_
      rintro e wb ⟨hbr, ⟨hb, _⟩ | ⟨_, rfl⟩⟩
      · exact absurd hb (unhide HG)
      have HB := hide ((unhide HB1).trans (hbr.mono (unhide HB1).size))
      clear hbr HB1 HR
      go_wp2_with fail
      refine (unhide HTwo _).mono ?_
      rintro e w22 ⟨pt, qt, rfl, _, _, hmt, hbt⟩
      have HT2 := hide hmt
      have HB2 := hide ((unhide HB).trans (hbt.mono (unhide HB).size))
      clear hmt hbt HB
      go_wp2_with fail
      refine (bToldNil _).mono ?_
      rintro e w23 ⟨rfl, hw⟩
      obtain rfl := hw.symm
      clear hw
      go_wp2_with fail
      refine (rToldNil _).mono ?_
      rintro e w24 ⟨rfl, hw⟩
      obtain rfl := hw.symm
      clear hw
      go_wp2_with fail
      refine (bLenNil _).mono ?_
      rintro e w25 ⟨rfl, hw⟩
      obtain rfl := hw.symm
      clear hw
      go_wp2_with fail
      refine (rLenNil _).mono ?_
      rintro e w26 ⟨rfl, hw⟩
      obtain rfl := hw.symm
      clear hw
      go_wp2_with fail
      refine (lGoneNil _).mono ?_
      rintro e w27 ⟨rfl, hbt⟩
      have HT3 := hide ((unhide HT2).below hbt)
      have HB3 := hide ((unhide HB2).trans (hbt.mono (unhide HB2).size))
      clear hbt HB2 HT2
      go_wp2_with fail
      refine (rEachNil _).mono ?_
      rintro e w28 ⟨rfl, hw⟩
      obtain rfl := hw.symm
      clear hw
      go_wp2_with fail
      refine (lSameI [] [] none none 0 0 _ (by decide) (fun h => absurd h (by decide)) (fun h => absurd h (by decide))).mono ?_
      rintro e w29 ⟨rfl, c, rfl⟩
      have HHs := hide (bHas ((unhide HT3).drewN c) 8 (by decide))
      rw [show (256 : Nat).testBit 8 = true from by decide] at HHs
      have HCo := hide (bCount ((unhide HT3).drewN c))
      rw [show Bit.count 256 9 = 1 from by decide] at HCo
      go_wp2_with fail
      refine (show Calls Tryd.prog 20 #[.pointer (some ⟨pt, 0, none⟩), .int .i64 8] _ _ from unhide HHs).mono ?_
      rintro e w30 ⟨rfl, hw⟩
      obtain rfl := hw.symm
      clear hw
      go_wp2_with fail
      refine (unhide HCo).mono ?_
      rintro e w31 ⟨rfl, hw⟩
      obtain rfl := hw.symm
      clear hw
      go_wp2
      go_ret
      exact ⟨rfl, belowDrewN (unhide HB3) _⟩
end Go.Proofs.YtloealcaagfehaaDoor
