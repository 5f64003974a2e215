/- BitmapBack: there and back. -/
import Derived.Test.YtloealcaagfehaaBe
import Derived.Test.YtloealcaagfehaaBt
import Derived.Test.YtloealcaagfehaaBf
namespace Go.Proofs.Ytloealcaagfehaa
open Go.RowKit

/-- two sets of one bound -/
structure BB (w u : World) (pa qa pb qb n A B : Nat) : Prop where
  a : Bm u pa qa n A
  b : Bm u pb qb n B
  bel : Below w.heap.size w u
theorem BB.below {w u u' : World} {pa qa pb qb n A B : Nat} (h : BB w u pa qa pb qb n A B) (hb : Below u.heap.size u u') : BB w u' pa qa pb qb n A B := ⟨h.a.below hb, h.b.below hb, h.bel.trans (hb.mono h.bel.size)⟩
theorem BB.more {w u u' : World} {pa qa pb qb n A B : Nat} (h : BB w u pa qa pb qb n A B) (hb : ∃ k, u' = u.drewN k) : BB w u' pa qa pb qb n A B := by
  obtain ⟨k, rfl⟩ := hb
  exact ⟨h.a.drewN k, h.b.drewN k, belowDrewN h.bel k⟩
/-- .. and a third, like the first -/
structure BC (w u : World) (pa qa pb qb pc qc n A B : Nat) : Prop where
  bb : BB w u pa qa pb qb n A B
  c : Bm u pc qc n A
theorem BC.below {w u u' : World} {pa qa pb qb pc qc n A B : Nat} (h : BC w u pa qa pb qb pc qc n A B) (hb : Below u.heap.size u u') : BC w u' pa qa pb qb pc qc n A B := ⟨h.bb.below hb, h.c.below hb⟩
theorem BC.more {w u u' : World} {pa qa pb qb pc qc n A B : Nat} (h : BC w u pa qa pb qb pc qc n A B) (hb : ∃ k, u' = u.drewN k) : BC w u' pa qa pb qb pc qc n A B := ⟨h.bb.more hb, by obtain ⟨k, rfl⟩ := hb; exact h.c.drewN k⟩
theorem told_str (S n : Nat) : (⟨(Bit.told S n).toArray⟩ : ByteArray).size = (n + 7) / 8 := by
  show (Bit.told S n).toArray.size = _
  rw [List.size_toArray, Bit.told_length]
theorem told_eq {A B n : Nat} (hA : A < 2 ^ n) (hB : B < 2 ^ n) : ((⟨(Bit.told A n).toArray⟩ : ByteArray).toList == (⟨(Bit.told B n).toArray⟩ : ByteArray).toList) = decide (A = B) := by
  rw [ByteArray.toList_mk, ByteArray.toList_mk]
  by_cases h : A = B
  · subst h; simp
  · have : Bit.told A n ≠ Bit.told B n := fun e => h (Bit.told_inj hA hB e)
    simp [h, this]
set_option maxRecDepth 100000 in
set_option maxHeartbeats 400000 in
theorem back_walk (x : Int) (xs ys : List Int) (ao bo : Option Addr) (c1 c2 : Nat) (w : World) (hl : xs.length ≤ 9223372036854775807) (hl2 : ys.length ≤ 9223372036854775807) (hx : LiesI w ao xs) (hy : LiesI w bo ys) :
    Calls Try.prog 4 #[.int .i64 x, .slice ao xs.length c1, .slice bo ys.length c2] w fun e w' => e = .returned (.bool true) ∧ Below w.heap.size w w' := by
  obtain ⟨n, hn⟩ : ∃ n, n = (x % 2001).toNat := ⟨_, rfl⟩
  have hn2 : n < 2001 := by omega
  have HO1 := hide (fun u => lOf x xs ao c1 u hl)
  have HO2 := hide (fun u => lOf x ys bo c2 u hl2)
  have HBo := hide (fun u => lBound x u)
  rw [← hn] at HO1 HO2 HBo
  have HX := hide hx
  have HY := hide hy
  clear hx hy hn hl hl2
  generalize xs.length = lx at *
  generalize ys.length = ly at *
  go_enter Try.func4, Try.ntmps4
  go_wp2_with fail
  refine (unhide HO1 _ (unhide HX)).mono ?_
  rintro e w1 ⟨pa, qa, rfl, hpa, hqa, hma, hb1⟩
  have HM1 := hide hma
  have HB1 := hide hb1
  clear hpa hqa hma hb1
  go_wp2_with fail
  refine (unhide HO2 _ ((unhide HY).keep (unhide HB1) (Nat.le_refl _))).mono ?_
  rintro e w2 ⟨pb, qb, rfl, hpb, hqb, hmb, hb2⟩
  have HJ : Hid (BB w w2 pa qa pb qb n (setOf n xs) (setOf n ys)) := ⟨(unhide HM1).below hb2, hmb, (unhide HB1).trans (hb2.mono (unhide HB1).size)⟩
  clear hpb hqb hmb hb2 HM1 HB1
  generalize setOf n xs = A at *
  generalize setOf n ys = B at *
  have HA := hide (unhide HJ).a.lt
  have HE := hide (told_eq (unhide HJ).a.lt (unhide HJ).b.lt)
  have HTa := hide (fun u (h : Bm u pa qa n A) => bTold h)
  have HTb := hide (fun u (h : Bm u pb qb n B) => bTold h)
  have hsz := told_str A n
  have hnum : Bit.num (⟨(Bit.told A n).toArray⟩ : ByteArray).data.toList = A := by simpa using Bit.num_told (unhide HA)
  generalize (⟨(Bit.told A n).toArray⟩ : ByteArray) = sa at *
  generalize (⟨(Bit.told B n).toArray⟩ : ByteArray) = sb at *
  have HF := hide (fun u => bFrom n (by omega) sa hsz (by rw [hnum]; exact unhide HA) u)
  rw [hnum] at HF
  have HF8 : Hid (∀ u, Calls Try.prog 16 #[.int .i64 ((n : Int) + 8), .string sa] u fun e w' => e = .returned (.tuple #[.pointer none, .int .i64 4]) ∧ Below u.heap.size u w') := fun u => by
    have h := bFromBad (n + 8) (by omega) sa (by omega) u
    rwa [show (((n + 8 : Nat)) : Int) = (n : Int) + 8 from by omega] at h
  have HF0 : Hid (∀ u, Calls Try.prog 16 #[.int .i64 (n : Int), .string (sa ++ ⟨#[0]⟩)] u fun e w' => e = .returned (.tuple #[.pointer none, .int .i64 4]) ∧ Below u.heap.size u w') := fun u => bFromBad n (by omega) _ (by rw [ByteArray.size_append]; show sa.size + 1 ≠ _; omega) u
  have hq : ((n : Int) + 7) / 8 = (sa.size : Int) := by omega
  have hs2 : sa.size ≤ 251 := by omega
  have heq := unhide HE
  clear hnum hsz HE
  go_wp2_with fail
  refine (bLen (unhide HJ).a).mono ?_
  rintro e w3 ⟨rfl, hw⟩
  obtain rfl := hw.symm
  clear hw
  go_wp2_with fail
  refine (unhide HTa _ (unhide HJ).a).mono ?_
  rintro e w4 ⟨rfl, hb⟩
  have HJ' := hide ((unhide HJ).below hb)
  clear HJ hb
  have HJ := hide (unhide HJ')
  clear HJ'
  go_wp2_with fail
  refine (unhide HF _).mono ?_
  rintro e w5 ⟨pc, qc, rfl, hpc, hqc, hmc, hb⟩
  have HK : Hid (BC w w5 pa qa pb qb pc qc n A B) := ⟨(unhide HJ).below hb, hmc⟩
  clear hpc hqc hmc hb HJ
  go_wp2_with fail
  refine (bSame (unhide HK).c (unhide HK).bb.a).mono ?_
  rintro e w6 ⟨rfl, hb⟩
  have HK' := hide ((unhide HK).more hb)
  clear HK hb
  have HK := hide (unhide HK')
  clear HK'
  go_wp2_with fail
  refine (bSame (unhide HK).bb.a (unhide HK).c).mono ?_
  rintro e w7 ⟨rfl, hb⟩
  have HK' := hide ((unhide HK).more hb)
  clear HK hb
  have HK := hide (unhide HK')
  clear HK'
  go_wp2_with fail
  refine (unhide HTa _ (unhide HK).bb.a).mono ?_
  rintro e w8 ⟨rfl, hb⟩
  have HK' := hide ((unhide HK).below hb)
  clear HK hb
  have HK := hide (unhide HK')
  clear HK'
  go_wp2_with fail
  refine (unhide HBo _).mono ?_
  rintro e w9 ⟨rfl, hw⟩
  obtain rfl := hw.symm
  clear hw
  go_wp2_with fail
  refine (bLen (unhide HK).bb.a).mono ?_
  rintro e w10 ⟨rfl, hw⟩
  obtain rfl := hw.symm
  clear hw
  go_wp2_with fail
  refine (unhide HTa _ (unhide HK).bb.a).mono ?_
  rintro e w11 ⟨rfl, hb⟩
  have HK' := hide ((unhide HK).below hb)
  clear HK hb
  have HK := hide (unhide HK')
  clear HK'
  go_wp2_with fail
  refine (unhide HF8 _).mono ?_
  rintro e w12 ⟨rfl, hb⟩
  have HK' := hide ((unhide HK).below hb)
  clear HK hb
  have HK := hide (unhide HK')
  clear HK'
  go_wp2_with fail
  refine (bLen (unhide HK).bb.a).mono ?_
  rintro e w13 ⟨rfl, hw⟩
  obtain rfl := hw.symm
  clear hw
  go_wp2_with fail
  refine (unhide HTa _ (unhide HK).bb.a).mono ?_
  rintro e w14 ⟨rfl, hb⟩
  have HK' := hide ((unhide HK).below hb)
  clear HK hb
  have HK := hide (unhide HK')
  clear HK'
  go_wp2_with fail
  refine (unhide HF0 _).mono ?_
  rintro e w15 ⟨rfl, hb⟩
  have HK' := hide ((unhide HK).below hb)
  clear HK hb
  have HK := hide (unhide HK')
  clear HK'
  go_wp2_with fail
  refine (bSame (unhide HK).bb.a (unhide HK).bb.b).mono ?_
  rintro e w16 ⟨rfl, hb⟩
  have HK' := hide ((unhide HK).more hb)
  clear HK hb
  have HK := hide (unhide HK')
  clear HK'
  go_wp2_with fail
  refine (unhide HTa _ (unhide HK).bb.a).mono ?_
  rintro e w17 ⟨rfl, hb⟩
  have HK' := hide ((unhide HK).below hb)
  clear HK hb
  have HK := hide (unhide HK')
  clear HK'
  go_wp2_with fail
  refine (unhide HTb _ (unhide HK).bb.b).mono ?_
  rintro e w18 ⟨rfl, hb⟩
  have HK' := hide ((unhide HK).below hb)
  clear HK hb
  have HK := hide (unhide HK')
  clear HK'
  go_wp2_with fail
  refine (bSame (unhide HK).bb.a (unhide HK).bb.a).mono ?_
  rintro e w19 ⟨rfl, hb⟩
  have HK' := hide ((unhide HK).more hb)
  clear HK hb
  have HK := hide (unhide HK')
  clear HK'
  go_wp2_with fail
  refine (bSameNil pa _).mono ?_
  rintro e w20 ⟨rfl, hb⟩
  have HK' := hide ((unhide HK).more hb)
  clear HK hb
  have HK := hide (unhide HK')
  clear HK'
  go_wp2
  go_ret
  exact ⟨rfl, (unhide HK).bb.bel⟩
end Go.Proofs.Ytloealcaagfehaa
