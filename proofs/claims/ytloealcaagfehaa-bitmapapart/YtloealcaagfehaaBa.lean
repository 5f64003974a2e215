/- BitmapApart: copies do not see one another. -/
import Derived.Test.YtloealcaagfehaaBe
import Derived.Test.YtloealcaagfehaaBt
import Derived.Test.YtloealcaagfehaaBb
import Derived.Test.YtloealcaagfehaaBk
import Derived.Test.YtloealcaagfehaaBy
import Derived.Test.YtloealcaagfehaaBc
import Derived.Test.YtloealcaagfehaaBh
namespace Go.Proofs.Ytloealcaagfehaa
open Go.RowKit

/-- four sets of one bound, each made behind the one ahead of it -/
structure Ap (w u : World) (pa qa pb qb pc qc pd qd n A B C D : Nat) : Prop where
  a : Bm u pa qa n A
  b : Bm u pb qb n B
  c : Bm u pc qc n C
  d : Bm u pd qd n D
  bel : Below w.heap.size w u
  ge : w.heap.size ≤ pa ∧ w.heap.size ≤ qa
  ab : pa < pb ∧ pa < qb ∧ qa < pb ∧ qa < qb
  bc : pb < pc ∧ pb < qc ∧ qb < pc ∧ qb < qc
  cd : pc < pd ∧ pc < qd ∧ qc < pd ∧ qc < qd
section
variable {w u u' : World} {pa qa pb qb pc qc pd qd n A B C D : Nat}
theorem Ap.below (h : Ap w u pa qa pb qb pc qc pd qd n A B C D) (hb : Below u.heap.size u u') : Ap w u' pa qa pb qb pc qc pd qd n A B C D := ⟨h.a.below hb, h.b.below hb, h.c.below hb, h.d.below hb, h.bel.trans (hb.mono h.bel.size), h.ge, h.ab, h.bc, h.cd⟩
theorem Ap.drewN (h : Ap w u pa qa pb qb pc qc pd qd n A B C D) (k : Nat) : Ap w (u.drewN k) pa qa pb qb pc qc pd qd n A B C D := ⟨h.a.drewN k, h.b.drewN k, h.c.drewN k, h.d.drewN k, belowDrewN h.bel k, h.ge, h.ab, h.bc, h.cd⟩
theorem Ap.more (h : Ap w u pa qa pb qb pc qc pd qd n A B C D) (hb : ∃ k, u' = u.drewN k) : Ap w u' pa qa pb qb pc qc pd qd n A B C D := by
  obtain ⟨k, rfl⟩ := hb
  exact h.drewN k
theorem Ap.setA {A' : Nat} (h : Ap w u pa qa pb qb pc qc pd qd n A B C D) (ha : Bm u' pa qa n A') (hu : U1 u u' qa) : Ap w u' pa qa pb qb pc qc pd qd n A' B C D := by
  have h1 := h.ge; have h2 := h.ab; have h3 := h.bc; have h4 := h.cd
  exact ⟨ha, h.b.u1 hu (by omega) (by omega), h.c.u1 hu (by omega) (by omega), h.d.u1 hu (by omega) (by omega), h.bel.trans (hu.toBelow h.bel.size (by omega)), h1, h2, h3, h4⟩
theorem Ap.setB {B' : Nat} (h : Ap w u pa qa pb qb pc qc pd qd n A B C D) (hb : Bm u' pb qb n B') (hu : U1 u u' qb) : Ap w u' pa qa pb qb pc qc pd qd n A B' C D := by
  have h1 := h.ge; have h2 := h.ab; have h3 := h.bc; have h4 := h.cd
  exact ⟨h.a.u1 hu (by omega) (by omega), hb, h.c.u1 hu (by omega) (by omega), h.d.u1 hu (by omega) (by omega), h.bel.trans (hu.toBelow h.bel.size (by omega)), h1, h2, h3, h4⟩
theorem Ap.setC {C' : Nat} (h : Ap w u pa qa pb qb pc qc pd qd n A B C D) (hc : Bm u' pc qc n C') (hu : U1 u u' qc) : Ap w u' pa qa pb qb pc qc pd qd n A B C' D := by
  have h1 := h.ge; have h2 := h.ab; have h3 := h.bc; have h4 := h.cd
  exact ⟨h.a.u1 hu (by omega) (by omega), h.b.u1 hu (by omega) (by omega), hc, h.d.u1 hu (by omega) (by omega), h.bel.trans (hu.toBelow h.bel.size (by omega)), h1, h2, h3, h4⟩
end
theorem told_sz (S n : Nat) : (⟨(Bit.told S n).toArray⟩ : ByteArray).size = (n + 7) / 8 := by
  show (Bit.told S n).toArray.size = _
  rw [List.size_toArray, Bit.told_length]
set_option maxRecDepth 100000 in
set_option maxHeartbeats 2000000 in
theorem apart_walk (x : Int) (xs ys : List Int) (ao bo : Option Addr) (c1 c2 : Nat) (w : World) (hl : xs.length ≤ 9223372036854775807) (hl2 : ys.length ≤ 9223372036854775807) (hx : LiesI w ao xs) (hy : LiesI w bo ys) :
    Calls Try.prog 5 #[.int .i64 x, .slice ao xs.length c1, .slice bo ys.length c2] w fun e w' => e = .returned (.bool true) ∧ Below w.heap.size w w' := by
  obtain ⟨n, hn⟩ : ∃ n, n = (x % 2001).toNat := ⟨_, rfl⟩
  have hn2 : n < 2001 := by omega
  have HO1 := hide (fun u => lOf x xs ao c1 u hl)
  have HBo := hide (fun u => lBound x u)
  rw [← hn] at HO1 HBo
  have HX := hide hx
  have HY := hide hy
  clear hx hy hn hl
  generalize xs.length = lx at *
  go_enter Try.func5, Try.ntmps5
  go_wp2_with fail
  refine (unhide HO1 _ (unhide HX)).mono ?_
  rintro e w1 ⟨pa, qa, rfl, hpa, hqa, hma, hb1⟩
  have HA := hide hma
  have HB := hide hb1
  have HGE : Hid (w.heap.size ≤ pa ∧ w.heap.size ≤ qa) := ⟨hpa, hqa⟩
  clear hpa hqa hma hb1 HO1
  generalize setOf n xs = A at *
  have HAl := hide (unhide HA).lt
  have HT := hide (fun u p q (h : Bm u p q n A) => bTold h)
  have hsz := told_sz A n
  have hnum : Bit.num (⟨(Bit.told A n).toArray⟩ : ByteArray).data.toList = A := by simpa using Bit.num_told (unhide HAl)
  generalize (⟨(Bit.told A n).toArray⟩ : ByteArray) = sa at *
  have HF := hide (fun u => bFrom n (by omega) sa hsz (by rw [hnum]; exact unhide HAl) u)
  rw [hnum] at HF
  clear hnum hsz
  go_wp2_with fail
  refine (bCopy (unhide HA)).mono ?_
  rintro e w2 ⟨pb, qb, rfl, hpb, hqb, hmb, hb2⟩
  have HAB : Hid (pa < pb ∧ pa < qb ∧ qa < pb ∧ qa < qb) := by have h1 := (unhide HA).plt; have h2 := (unhide HA).qlt; exact ⟨by omega, by omega, by omega, by omega⟩
  have HA' := hide ((unhide HA).below hb2)
  have HB' := hide ((unhide HB).trans (hb2.mono (unhide HB).size))
  have HBm := hide hmb
  clear HA HB hpb hqb hmb hb2
  have HJ : Hid (BB w w2 pa qa pb qb n A A) := ⟨unhide HA', unhide HBm, unhide HB'⟩
  clear HA' HB' HBm
  go_wp2_with fail
  refine (bLen (unhide HJ).a).mono ?_
  rintro e w3 ⟨rfl, hw⟩
  obtain rfl := hw.symm
  clear hw
  go_wp2_with fail
  refine (unhide HT _ _ _ (unhide HJ).a).mono ?_
  rintro e w4 ⟨rfl, hb⟩
  have HJ' := hide ((unhide HJ).below hb)
  clear HJ hb
  have HJ := hide (unhide HJ')
  clear HJ'
  go_wp2_with fail
  refine (unhide HF _).mono ?_
  rintro e w5 ⟨pc, qc, rfl, hpc, hqc, hmc, hb⟩
  have HBC : Hid (pb < pc ∧ pb < qc ∧ qb < pc ∧ qb < qc) := by have h1 := (unhide HJ).b.plt; have h2 := (unhide HJ).b.qlt; exact ⟨by omega, by omega, by omega, by omega⟩
  have HL : Hid (BC w w5 pa qa pb qb pc qc n A A) := ⟨(unhide HJ).below hb, hmc⟩
  clear hpc hqc hmc hb HJ
  go_wp2_with fail
  refine (bLen (unhide HL).bb.a).mono ?_
  rintro e w6 ⟨rfl, hw⟩
  obtain rfl := hw.symm
  clear hw
  go_wp2_with fail
  refine (unhide HT _ _ _ (unhide HL).bb.a).mono ?_
  rintro e w7 ⟨rfl, hb⟩
  have HL' := hide ((unhide HL).below hb)
  clear HL hb
  have HL := hide (unhide HL')
  clear HL'
  go_wp2_with fail
  refine (unhide HF _).mono ?_
  rintro e w8 ⟨pd, qd, rfl, hpd, hqd, hmd, hb⟩
  have HCD : Hid (pc < pd ∧ pc < qd ∧ qc < pd ∧ qc < qd) := by have h1 := (unhide HL).c.plt; have h2 := (unhide HL).c.qlt; exact ⟨by omega, by omega, by omega, by omega⟩
  have HK : Hid (Ap w w8 pa qa pb qb pc qc pd qd n A A A A) := ⟨((unhide HL).below hb).bb.a, ((unhide HL).below hb).bb.b, ((unhide HL).below hb).c, hmd, ((unhide HL).below hb).bb.bel, unhide HGE, unhide HAB, unhide HBC, unhide HCD⟩
  clear hpd hqd hmd hb HL HGE HAB HBC HCD HF
  go_wp2_with fail
  refine (unhide HT _ _ _ (unhide HK).a).mono ?_
  rintro e w9 ⟨rfl, hb⟩
  have HK' := hide ((unhide HK).below hb)
  clear HK hb
  have HK := hide (unhide HK')
  clear HK'
  go_wp2_with fail
  go_loopw [14] (fun i wr => ∃ k : Nat, k ≤ ys.length ∧ i = .int .i64 k ∧ Hid (∃ A1 B1 C1, Ap w wr pa qa pb qb pc qc pd qd n A1 B1 C1 A)) (fun i _ => ys.length - (intOf i).toNat)
  case atStart => exact ⟨0, Nat.zero_le _, rfl, hide ⟨_, _, _, unhide HK⟩⟩
  case round =>
    clear HK
    obtain ⟨k, hk, rfl, HI⟩ := hrel
    obtain ⟨A1, B1, C1, hK⟩ := unhide HI
    have HK := hide hK
    clear hK HI
    by_cases hlt : k < ys.length
    · have hki : (k : Int) < (ys.length : Int) := by omega
      by_cases h0 : n = 0
      · subst h0
        go_wp2_with fail
        refine (bLen (unhide HK).a).mono ?_
        rintro e w10 ⟨rfl, hw⟩
        obtain rfl := hw.symm
        clear hw
        go_wp2_with fail
        refine (bClear (unhide HK).b).mono ?_
        rintro e w30 ⟨rfl, hm, hu⟩
        have HK' := hide ((unhide HK).setB hm hu)
        clear HK hm hu
        have HK := hide (unhide HK')
        clear HK'
        go_wp2_with fail
        refine (bClear (unhide HK).c).mono ?_
        rintro e w31 ⟨rfl, hm, hu⟩
        have HK' := hide ((unhide HK).setC hm hu)
        clear HK hm hu
        have HK := hide (unhide HK')
        clear HK'
        go_wp2_with fail
        refine (unhide HT _ _ _ (unhide HK).d).mono ?_
        rintro e w32 ⟨rfl, hb⟩
        have HK' := hide ((unhide HK).below hb)
        clear HK hb
        have HK := hide (unhide HK')
        clear HK'
        go_wp2_with fail
        refine (bCount0 (unhide HK).b).mono ?_
        rintro e w33 ⟨rfl, hw⟩
        obtain rfl := hw.symm
        clear hw
        go_wp2_with fail
        refine (bCount0 (unhide HK).c).mono ?_
        rintro e w34 ⟨rfl, hw⟩
        obtain rfl := hw.symm
        clear hw
        go_wp2_with fail
        refine (bSame (unhide HK).b (unhide HK).c).mono ?_
        rintro e w35 ⟨rfl, hb⟩
        have HK' := hide ((unhide HK).more hb)
        clear HK hb
        have HK := hide (unhide HK')
        clear HK'
        go_wp2_with fail
        refine (bLen (unhide HK).b).mono ?_
        rintro e w36 ⟨rfl, hw⟩
        obtain rfl := hw.symm
        clear hw
        go_wp2_with fail
        refine (unhide HBo _).mono ?_
        rintro e w37 ⟨rfl, hw⟩
        obtain rfl := hw.symm
        clear hw
        go_wp2
        go_ret
        exact ⟨rfl, (unhide HK).bel⟩
      · have hpos : decide (0 < n) = true := decide_eq_true (by omega)
        have hpos' : 0 < n := by omega
        obtain ⟨g, o, rfl, hg, hcells⟩ := unhide HY (by omega)
        have hc : wr.cell? ⟨g, o + k, none⟩ = some (.int .i64 ys[k]) := ((unhide HK).bel.cell (p := ⟨g, o + k, none⟩) hg).trans (hcells k hlt)
        generalize ys[k] = y at *
        clear hcells
        obtain ⟨z, hz⟩ : ∃ z : Nat, y % (n : Int) = (z : Int) := ⟨(y % (n : Int)).toNat, (Int.toNat_of_nonneg (Int.emod_nonneg y (by omega))).symm⟩
        have hzn : z < n := by have := Int.emod_lt_of_pos y (b := (n : Int)) (by omega); omega
        have HBl := hide (fun u => lBelow y n (by omega) (by omega) u)
        rw [hz] at HBl
        clear hz
        go_wp2_with fail
        refine (bLen (unhide HK).a).mono ?_
        rintro e w10 ⟨rfl, hw⟩
        obtain rfl := hw.symm
        clear hw
        go_wp2_with fail
        have HLn := hide (fun c => bLen ((unhide HK).a.drewN c))
        go_quiet (first | (go_at_call 15; exact Calls.quiet_of_same (unhide HLn _)) | (go_at_call 18; exact Calls.quiet_of_same (unhide HBl _)))
        have HK' := hide ((unhide HK).drewN nq)
        generalize wr.drewN nq = w11 at *
        clear HK
        have HK := hide (unhide HK')
        clear HK' HLn
        go_wp2_with fail
        refine (bTake (unhide HK).a z hzn).mono ?_
        rintro e w12 ⟨rfl, hm, hu⟩
        have HK' := hide ((unhide HK).setA hm hu)
        clear HK hm hu
        have HK := hide (unhide HK')
        clear HK'
        go_wp2_with fail
        refine (bPut (unhide HK).b z hzn).mono ?_
        rintro e w13 ⟨rfl, hm, hu⟩
        have HK' := hide ((unhide HK).setB hm hu)
        clear HK hm hu
        have HK := hide (unhide HK')
        clear HK'
        go_wp2_with fail
        refine (bFill (unhide HK).c 0 z (Nat.zero_le _) (Nat.le_of_lt hzn)).mono ?_
        rintro e w14 ⟨rfl, hm, hu⟩
        have HK' := hide ((unhide HK).setC hm hu)
        clear HK hm hu
        have HK := hide (unhide HK')
        clear HK'
        have ta : (Bit.out A1 z).testBit z = false := by rw [Bit.out_bit]; simp
        have tb : (B1 ||| 2 ^ z).testBit z = true := by rw [Nat.testBit_or, Nat.testBit_two_pow]; simp
        have HHa := hide (bHas (unhide HK).a z hzn)
        have HHb := hide (bHas (unhide HK).b z hzn)
        rw [ta] at HHa
        rw [tb] at HHb
        clear ta tb
        go_wp2_with fail
        refine (unhide HHa).mono ?_
        rintro e w15 ⟨rfl, hw⟩
        obtain rfl := hw.symm
        clear hw
        go_wp2_with fail
        refine (unhide HHb).mono ?_
        rintro e w16 ⟨rfl, hw⟩
        obtain rfl := hw.symm
        clear hw
        go_wp2_with fail
        refine (unhide HT _ _ _ (unhide HK).d).mono ?_
        clear HHa HHb
        rintro e w17 ⟨rfl, hb⟩
        have HK' := hide ((unhide HK).below hb)
        clear HK hb
        have HK := hide (unhide HK')
        clear HK'
        go_wp2
        go_roundw
        case rel => exact ⟨k + 1, by omega, by go_num, hide ⟨_, _, _, unhide HK⟩⟩
        case measure => simp [intOf]; omega
    · have hkk : k = ys.length := by omega
      subst hkk
      go_wp2_with fail
      refine (bClear (unhide HK).b).mono ?_
      rintro e w30 ⟨rfl, hm, hu⟩
      have HK' := hide ((unhide HK).setB hm hu)
      clear HK hm hu
      have HK := hide (unhide HK')
      clear HK'
      go_wp2_with fail
      refine (bClear (unhide HK).c).mono ?_
      rintro e w31 ⟨rfl, hm, hu⟩
      have HK' := hide ((unhide HK).setC hm hu)
      clear HK hm hu
      have HK := hide (unhide HK')
      clear HK'
      go_wp2_with fail
      refine (unhide HT _ _ _ (unhide HK).d).mono ?_
      rintro e w32 ⟨rfl, hb⟩
      have HK' := hide ((unhide HK).below hb)
      clear HK hb
      have HK := hide (unhide HK')
      clear HK'
      go_wp2_with fail
      refine (bCount0 (unhide HK).b).mono ?_
      rintro e w33 ⟨rfl, hw⟩
      obtain rfl := hw.symm
      clear hw
      go_wp2_with fail
      refine (bCount0 (unhide HK).c).mono ?_
      rintro e w34 ⟨rfl, hw⟩
      obtain rfl := hw.symm
      clear hw
      go_wp2_with fail
      refine (bSame (unhide HK).b (unhide HK).c).mono ?_
      rintro e w35 ⟨rfl, hb⟩
      have HK' := hide ((unhide HK).more hb)
      clear HK hb
      have HK := hide (unhide HK')
      clear HK'
      go_wp2_with fail
      refine (bLen (unhide HK).b).mono ?_
      rintro e w36 ⟨rfl, hw⟩
      obtain rfl := hw.symm
      clear hw
      go_wp2_with fail
      refine (unhide HBo _).mono ?_
      rintro e w37 ⟨rfl, hw⟩
      obtain rfl := hw.symm
      clear hw
      go_wp2
      go_ret
      exact ⟨rfl, (unhide HK).bel⟩
end Go.Proofs.Ytloealcaagfehaa
