/- Sorting numbers of 64 bits: partitionEqual. Written by mksog.py. -/
import Derived.Test.YtopabadnbelegaaQSof
import Derived.Sort.LotC
namespace Go.Proofs.Ytopabadnbelegaa.K
open Go.RowKit Go.Lib
theorem up_go (p : BitVec 64 → Bool) (d : Array (BitVec 64)) (j i : Nat) (h : i ≤ j) (hp : p d[i]! = true) : Sort.scanUp p d j i = Sort.scanUp p d j (i + 1) := by
  rw [Sort.scanUp, if_pos (by simp [h, hp])]
theorem up_no (p : BitVec 64 → Bool) (d : Array (BitVec 64)) (j i : Nat) (h : ¬ i ≤ j ∨ p d[i]! = false) : Sort.scanUp p d j i = i := by
  rw [Sort.scanUp, if_neg (by rcases h with h | h <;> simp [h])]
theorem dn_go (p : BitVec 64 → Bool) (d : Array (BitVec 64)) (i j : Nat) (h : i ≤ j) (h0 : 0 < j) (hp : p d[j]! = true) : Sort.scanDown p d i j = Sort.scanDown p d i (j - 1) := by
  obtain ⟨k, rfl⟩ : ∃ k, j = k + 1 := ⟨j - 1, by omega⟩
  rw [Sort.scanDown, if_pos (by simp [h, hp]), Nat.add_sub_cancel]
theorem dn_no (p : BitVec 64 → Bool) (d : Array (BitVec 64)) (i j : Nat) (h : ¬ i ≤ j ∨ p d[j]! = false) : Sort.scanDown p d i j = j := by
  cases j with
  | zero => rw [Sort.scanDown]
  | succ k => rw [Sort.scanDown, if_neg (by rcases h with h | h <;> simp [h])]
theorem peq_brk (a i j i2 j2 : Nat) (d : Array (BitVec 64)) (hi : Sort.scanUp (fun x => !ltB d[a]! x) d j i = i2) (hj : Sort.scanDown (fun x => ltB d[a]! x) d i2 j = j2) (h : i2 > j2) : Sort.partEqLoop ltB a i j d = (i2, d) := by
  subst hi; subst hj; rw [Sort.partEqLoop_eq, if_pos h]
theorem peq_go (a i j i2 j2 : Nat) (d : Array (BitVec 64)) (hi : Sort.scanUp (fun x => !ltB d[a]! x) d j i = i2) (hj : Sort.scanDown (fun x => ltB d[a]! x) d i2 j = j2) (h : ¬ i2 > j2) : Sort.partEqLoop ltB a i j d = Sort.partEqLoop ltB a (i2 + 1) (j2 - 1) (Sort.swp d i2 j2) := by
  subst hi; subst hj; rw [Sort.partEqLoop_eq, if_neg h]
theorem peq_ne (a i j i2 j2 : Nat) (d : Array (BitVec 64)) (hi : Sort.scanUp (fun x => !ltB d[a]! x) d j i = i2) (hj : Sort.scanDown (fun x => ltB d[a]! x) d i2 j = j2) (h : i2 ≤ j2) (h0 : 0 < i2) : i2 < j2 := by
  rcases Nat.lt_or_ge i2 j2 with q | q
  · exact q
  · exfalso
    have e : j2 = i2 := by omega
    subst e
    have u4 := (Sort.scanUp_spec (fun x => !ltB d[a]! x) d j _ i rfl).2.2.2
    have v1 := (Sort.scanDown_spec (fun x => ltB d[a]! x) d j2 j).1
    have v4 := (Sort.scanDown_spec (fun x => ltB d[a]! x) d j2 j).2.2.2
    rw [hi] at u4
    rw [hj] at v1 v4
    have f1 := u4 v1
    have f2 := v4 (Nat.le_refl _) h0
    rw [f2] at f1
    cases f1
theorem prt_ne (a i j i2 j2 : Nat) (d : Array (BitVec 64)) (hi : Sort.scanUp (fun x => ltB x d[a]!) d j i = i2) (hj : Sort.scanDown (fun x => !ltB x d[a]!) d i2 j = j2) (h : i2 ≤ j2) (h0 : 0 < i2) : i2 < j2 := by
  rcases Nat.lt_or_ge i2 j2 with q | q
  · exact q
  · exfalso
    have e : j2 = i2 := by omega
    subst e
    have u4 := (Sort.scanUp_spec (fun x => ltB x d[a]!) d j _ i rfl).2.2.2
    have v1 := (Sort.scanDown_spec (fun x => !ltB x d[a]!) d j2 j).1
    have v4 := (Sort.scanDown_spec (fun x => !ltB x d[a]!) d j2 j).2.2.2
    rw [hi] at u4
    rw [hj] at v1 v4
    have f1 := u4 v1
    have f2 := v4 (Nat.le_refl _) h0
    rw [f1] at f2
    cases f2
theorem prt_brk (a i j i2 j2 : Nat) (d : Array (BitVec 64)) (hi : Sort.scanUp (fun x => ltB x d[a]!) d j i = i2) (hj : Sort.scanDown (fun x => !ltB x d[a]!) d i2 j = j2) (h : i2 > j2) : Sort.partLoop ltB a i j d = (j2, d) := by
  subst hi; subst hj; rw [Sort.partLoop_eq, if_pos h]
theorem prt_go (a i j i2 j2 : Nat) (d : Array (BitVec 64)) (hi : Sort.scanUp (fun x => ltB x d[a]!) d j i = i2) (hj : Sort.scanDown (fun x => !ltB x d[a]!) d i2 j = j2) (h : ¬ i2 > j2) : Sort.partLoop ltB a i j d = Sort.partLoop ltB a (i2 + 1) (j2 - 1) (Sort.swp d i2 j2) := by
  subst hi; subst hj; rw [Sort.partLoop_eq, if_neg h]
theorem part_brk (a b p i2 j2 : Nat) (d e : Array (BitVec 64)) (he : e = Sort.swp d a p) (hi : Sort.scanUp (fun x => ltB x e[a]!) e (b - 1) (a + 1) = i2) (hj : Sort.scanDown (fun x => !ltB x e[a]!) e i2 (b - 1) = j2) (h : i2 > j2) : Sort.partition ltB d a b p = (j2, true, Sort.swp e j2 a) := by
  subst hi; subst hj; subst he; unfold Sort.partition; simp only []; rw [if_pos h]
theorem part_go (a b p i2 j2 : Nat) (d e : Array (BitVec 64)) (he : e = Sort.swp d a p) (hi : Sort.scanUp (fun x => ltB x e[a]!) e (b - 1) (a + 1) = i2) (hj : Sort.scanDown (fun x => !ltB x e[a]!) e i2 (b - 1) = j2) (h : ¬ i2 > j2) (r : Nat × Array (BitVec 64)) (hr : r = Sort.partLoop ltB a (i2 + 1) (j2 - 1) (Sort.swp e i2 j2)) : Sort.partition ltB d a b p = (r.1, false, Sort.swp r.2 r.1 a) := by
  subst hi; subst hj; subst he; subst hr; unfold Sort.partition; simp only []; rw [if_neg h]
set_option maxRecDepth 100000 in
set_option maxHeartbeats 6000000 in
theorem kPeq (g c a b p n N : Nat) (t : TypeId) (d : Array (BitVec 64)) (u : World) (h : Rw u g t N d) (hn : n = d.size) (hap : a ≤ p) (hpb : p < b) (hb : b ≤ n) (hm : n ≤ 17592186044416) : Calls Try.prog 62 #[.slice (some ⟨g, 0, none⟩) n c, .int .i64 (a : Int), .int .i64 (b : Int), .int .i64 (p : Int)] u fun e u' => e = .returned (.int .i64 ((Sort.partitionEqual ltB d a b p).1 : Int)) ∧ So u u' g t N (Sort.partitionEqual ltB d a b p).2 := by
  have HI := hide (fun i (hi : i < n) => ixW g n c i hi)
  have hai : (a : Int) ≤ 17592186044416 := by omega
  have hbi : (b : Int) ≤ 17592186044416 := by omega
  have HL := hide (fun x y w => kLess x y w)
  have hza : a < d.size := by omega
  have hzp : p < d.size := by omega
  obtain ⟨ca, fa⟩ := h.cell a hza
  obtain ⟨cp, fp⟩ := h.cell p hzp
  have ixa := ixW g n c a (by omega)
  have ixp := ixW g n c p (by omega)
  have HSW := hide (So.swap ⟨h, Alt.refl _ _⟩ a p hza hzp)
  have HSZ : Hid ((Sort.swp d a p).size = n) := (swp_size d a p).trans hn.symm
  have HB := hide hb
  have HIJ0 : Hid (a < a + 1 ∧ a + 1 ≤ b - 1 + 1 ∧ b - 1 < b) := ⟨by omega, by omega, by omega⟩
  have hb1 : wrap64 ((b : Int) - 1) = ((b - 1 : Nat) : Int) := by simp only [wrap64]; omega
  have hb2 : (b : Int) - 1 = ((b - 1 : Nat) : Int) := by omega
  have hbl : ((b - 1 : Nat) : Int) ≤ 17592186044416 := by omega
  generalize d[a]! = ya at ca HSW
  generalize d[p]! = yp at cp HSW
  obtain ⟨v', hy'⟩ := cell?_setCell_some (p := ⟨g, a, none⟩) (x := .int .u64 yp.toNat) cp
  clear h hn hap hpb hb hm hza hzp
  go_enter Try.func62, Try.ntmps62
  go_wp2
  go_region
  go_wp2
  go_loopw [9, 10] (fun s9 s10 wr => ∃ (i j : Nat) (dk : Array (BitVec 64)), s9 = .int .i64 (i : Int) ∧ s10 = .int .i64 (j : Int) ∧ (i : Int) ≤ 17592186044416 ∧ (j : Int) ≤ 17592186044416 ∧ Hid (a < i ∧ i ≤ j + 1 ∧ j < b) ∧ Hid (dk.size = n) ∧ Hid (So u wr g t N dk) ∧ Hid (Sort.partEqLoop ltB a i j dk = Sort.partEqLoop ltB a (a + 1) (b - 1) (Sort.swp d a p))) (fun s9 s10 _ => (intOf s10).toNat + 1 - (intOf s9).toNat)
  case atStart => exact ⟨a + 1, b - 1, _, by go_num, by first | rfl | rw [hb1], by have := unhide HIJ0; have := unhide HB; omega, hbl, HIJ0, HSZ, ⟨(unhide HSW).rw'.drew, (unhide HSW).alt.drew⟩, rfl⟩
  case round =>
    clear HSW HSZ HIJ0 hy' ca fa cp fp ixa ixp
    obtain ⟨i, j, dk, rfl, rfl, hib, hjb0, HIJ, HZ, HS, HO⟩ := hrel
    go_wp2
    go_loopw [9] (fun si wq => ∃ i' : Nat, si = .int .i64 (i' : Int) ∧ (i' : Int) ≤ 17592186044416 ∧ Hid (i ≤ i' ∧ i' ≤ j + 1) ∧ Hid (So u wq g t N dk) ∧ Hid (Sort.scanUp (fun x => !ltB dk[a]! x) dk j i' = Sort.scanUp (fun x => !ltB dk[a]! x) dk j i)) (fun si _ => j + 1 - (intOf si).toNat)
    case atStart => exact ⟨i, by first | rfl | go_num, by have := unhide HIJ; first | omega | assumption, ⟨Nat.le_refl _, (unhide HIJ).2.1⟩, HS, rfl⟩
    case round =>
      clear HS
      obtain ⟨i', rfl, hib', HII, HS, HSC⟩ := hrel
      obtain ⟨hii1, hii2⟩ := unhide HII
      have hia := (unhide HIJ).1
      have hjb := (unhide HIJ).2.2
      by_cases hle : i' ≤ j
      · have hlei : (i' : Int) ≤ (j : Int) := by omega
        have hza : a < dk.size := by rw [unhide HZ]; have := unhide HB; omega
        obtain ⟨cya, fya⟩ := (unhide HS).rw'.cell a hza
        have ixya := unhide HI a (by rw [unhide HZ] at hza; exact hza)
        obtain ⟨ya, hya⟩ : ∃ ya, ya = dk[a]! := ⟨_, rfl⟩
        rw [← hya] at cya
        have Hya := hide hya.symm
        have HZya := hide hza
        clear hya hza
        have hzi : i' < dk.size := by rw [unhide HZ]; have := unhide HB; omega
        obtain ⟨cyi, fyi⟩ := (unhide HS).rw'.cell i' hzi
        have ixyi := unhide HI i' (by rw [unhide HZ] at hzi; exact hzi)
        obtain ⟨yi, hyi⟩ : ∃ yi, yi = dk[i']! := ⟨_, rfl⟩
        rw [← hyi] at cyi
        have Hyi := hide hyi.symm
        have HZyi := hide hzi
        clear hyi hzi
        have HLE := hide hle
        cases hls : ltB ya yi with
        | false =>
          have HLS := hide (fun w => unhide HL ya yi w)
          rw [hls] at HLS
          have HGO := hide ((up_go (fun x => !ltB dk[a]! x) dk j i' hle (by show (!ltB dk[a]! dk[i']!) = true; rw [unhide Hya, unhide Hyi, hls]; rfl)).symm.trans (unhide HSC))
          have HI2 : Hid (i ≤ i' + 1 ∧ i' + 1 ≤ j + 1) := ⟨by omega, by omega⟩
          have hib2 : ((i' + 1 : Nat) : Int) ≤ 17592186044416 := by omega
          clear hls hle hii1 hii2 hia hjb
          go_wp2
          go_quiet (first | exact Calls.quiet_of_same (unhide HLS _) | fail)
          go_wp2
          go_roundw
          case rel => exact ⟨i' + 1, by go_num, hib2, HI2, (unhide HS).drewN nq, HGO⟩
          case measure => have := unhide HLE; simp [intOf]; omega
        | true =>
          have HLS := hide (fun w => unhide HL ya yi w)
          rw [hls] at HLS
          have HI2 := hide ((unhide HSC).symm.trans (up_no (fun x => !ltB dk[a]! x) dk j i' (.inr (by show (!ltB dk[a]! dk[i']!) = false; rw [unhide Hya, unhide Hyi, hls]; rfl))))
          clear hls hle hii1 hii2 hia hjb HSC
          go_wp2
          go_quiet (first | exact Calls.quiet_of_same (unhide HLS _) | fail)
          replace HS : Hid (So u (wr.drewN nq) g t N dk) := (unhide HS).drewN nq
          generalize wr.drewN nq = W1 at *
          clear cya fya cyi fyi ixya ixyi HLS
          go_wp2
          go_loopw [10] (fun sj wq => ∃ j' : Nat, sj = .int .i64 (j' : Int) ∧ (j' : Int) ≤ 17592186044416 ∧ Hid (j' ≤ j ∧ i' ≤ j' + 1) ∧ Hid (So u wq g t N dk) ∧ Hid (Sort.scanDown (fun x => ltB dk[a]! x) dk i' j' = Sort.scanDown (fun x => ltB dk[a]! x) dk i' j)) (fun sj _ => (intOf sj).toNat)
          case atStart => exact ⟨j, by first | rfl | go_num, by have := unhide HIJ; have := unhide HII; first | omega | assumption, ⟨Nat.le_refl _, (unhide HII).2⟩, HS, rfl⟩
          case round =>
            clear HS
            obtain ⟨j', rfl, hjb', HJJ, HS, HSD⟩ := hrel
            obtain ⟨hjj1, hjj2⟩ := unhide HJJ
            by_cases hle2 : i' ≤ j'
            · have hle2i : (i' : Int) ≤ (j' : Int) := by omega
              have hia := (unhide HIJ).1
              have hii1 := (unhide HII).1
              have hjb := (unhide HIJ).2.2
              have hza : a < dk.size := by rw [unhide HZ]; have := unhide HB; omega
              obtain ⟨cya, fya⟩ := (unhide HS).rw'.cell a hza
              have ixya := unhide HI a (by rw [unhide HZ] at hza; exact hza)
              obtain ⟨ya, hya⟩ : ∃ ya, ya = dk[a]! := ⟨_, rfl⟩
              rw [← hya] at cya
              have Hya := hide hya.symm
              have HZya := hide hza
              clear hya hza
              have hzj : j' < dk.size := by rw [unhide HZ]; have := unhide HB; omega
              obtain ⟨cyj, fyj⟩ := (unhide HS).rw'.cell j' hzj
              have ixyj := unhide HI j' (by rw [unhide HZ] at hzj; exact hzj)
              obtain ⟨yj, hyj⟩ : ∃ yj, yj = dk[j']! := ⟨_, rfl⟩
              rw [← hyj] at cyj
              have Hyj := hide hyj.symm
              have HZyj := hide hzj
              clear hyj hzj
              have HLE2 := hide hle2
              cases hls : ltB ya yj with
              | true =>
                have HLS := hide (fun w => unhide HL ya yj w)
                rw [hls] at HLS
                have HGO := hide ((dn_go (fun x => ltB dk[a]! x) dk i' j' hle2 (by omega) (by show ltB dk[a]! dk[j']! = true; rw [unhide Hya, unhide Hyj, hls])).symm.trans (unhide HSD))
                have HJ2 : Hid (j' - 1 ≤ j ∧ i' ≤ j' - 1 + 1) := ⟨by omega, by omega⟩
                have hj1 : wrap64 ((j' : Int) - 1) = ((j' - 1 : Nat) : Int) := by simp only [wrap64]; omega
                have HJM : Hid ((j' : Int) - 1 = ((j' - 1 : Nat) : Int)) := by show _ = _; omega
                have HJP : Hid (0 < j') := by show 0 < _; omega
                clear hls hle2 hjj1 hjj2 hia hii1 hjb
                go_wp2
                go_quiet (first | exact Calls.quiet_of_same (unhide HLS _) | fail)
                go_wp2
                go_roundw
                case rel => exact ⟨j' - 1, by first | rw [hj1] | rw [unhide HJM], by omega, HJ2, (unhide HS).drewN nq, HGO⟩
                case measure => first | rw [hj1] | rw [unhide HJM]; have := unhide HJP; show ((j' - 1 : Nat) : Int).toNat < (j' : Int).toNat; omega
              | false =>
                have HLS := hide (fun w => unhide HL ya yj w)
                rw [hls] at HLS
                have HJ2 := hide ((unhide HSD).symm.trans (dn_no (fun x => ltB dk[a]! x) dk i' j' (.inr (by show ltB dk[a]! dk[j']! = false; rw [unhide Hya, unhide Hyj, hls]))))
                have HNG : Hid (¬ i' > j') := by show ¬ _; omega
                have hgt : ¬ (i' : Int) > (j' : Int) := by omega
                clear hls hle2 hjj1 hjj2 hia hii1 hjb HSD
                go_wp2
                go_quiet (first | exact Calls.quiet_of_same (unhide HLS _) | fail)
                replace HS : Hid (So u (wr.drewN nq) g t N dk) := (unhide HS).drewN nq
                generalize wr.drewN nq = W2 at *
                clear cya fya cyj fyj ixya ixyj HLS
                have hz1 : i' < dk.size := by rw [unhide HZ]; have := unhide HB; have := unhide HIJ; have := unhide HII; have := unhide HJJ; have := unhide HNG; omega
                have hz2 : j' < dk.size := by rw [unhide HZ]; have := unhide HB; have := unhide HIJ; have := unhide HJJ; omega
                obtain ⟨c1, f1⟩ := (unhide HS).rw'.cell i' hz1
                obtain ⟨c2, f2⟩ := (unhide HS).rw'.cell j' hz2
                have ix1 := unhide HI i' (by rw [unhide HZ] at hz1; exact hz1)
                have ix2 := unhide HI j' (by rw [unhide HZ] at hz2; exact hz2)
                have HSW := hide ((unhide HS).swap i' j' hz1 hz2)
                have HSS : Hid ((Sort.swp dk i' j').size = n) := (swp_size dk i' j').trans (unhide HZ)
                generalize dk[i']! = y1 at c1 c2 HSW
                generalize dk[j']! = y2 at c1 c2 HSW
                obtain ⟨v3, hy3⟩ := cell?_setCell_some (p := ⟨g, i', none⟩) (x := .int .u64 y2.toNat) c2
                clear hz1 hz2
                go_wp2
                go_region
                go_wp2
                go_roundw
                case rel =>
                  refine ⟨i' + 1, j' - 1, _, by go_num, ?_, by have := unhide HII; have := unhide HJJ; have := unhide HIJ; have := unhide HNG; omega, ?_, ?_, HSS, ⟨(unhide HSW).rw'.drew, (unhide HSW).alt.drew⟩, ?_⟩
                  · have q1 : wrap64 ((j' : Int) - 1) = ((j' - 1 : Nat) : Int) := by have := unhide HIJ; have := unhide HII; have := unhide HNG; simp only [wrap64]; omega
                    have q2 : (j' : Int) - 1 = ((j' - 1 : Nat) : Int) := by have := unhide HIJ; have := unhide HII; have := unhide HNG; omega
                    first | rw [q1] | rw [q2]
                  · have := unhide HIJ; have := unhide HII; have := unhide HJJ; have := unhide HNG; omega
                  · have := unhide HIJ; have := unhide HII; have := unhide HJJ; have hx := peq_ne a i j i' j' dk (unhide HI2) (unhide HJ2) (by have := unhide HNG; omega) (by omega); show _ ∧ _ ∧ _; exact ⟨by omega, by omega, by omega⟩
                  · exact (peq_go a i j i' j' dk (unhide HI2) (unhide HJ2) (unhide HNG)).symm.trans (unhide HO)
                case measure =>
                  have := unhide HIJ; have := unhide HII; have := unhide HJJ; have := unhide HNG
                  simp [intOf]
                  omega
            · have hle2i : ¬ (i' : Int) ≤ (j' : Int) := by omega
              have hle2d : decide (i' ≤ j') = false := decide_eq_false hle2
              have hgt : (i' : Int) > (j' : Int) := by omega
              have HJ2 := hide ((unhide HSD).symm.trans (dn_no (fun x => ltB dk[a]! x) dk i' j' (.inl hle2)))
              have HGT : Hid (i' > j') := by show _ > _; omega
              clear hle2 hjj1 hjj2 HSD
              go_wp2
              go_quiet (first | fail)
              replace HS : Hid (So u (wr.drewN nq) g t N dk) := (unhide HS).drewN nq
              generalize wr.drewN nq = W2 at *
              go_wp2
              have HEN : Hid (Sort.partitionEqual ltB d a b p = (i', dk)) := by
                show _ = _
                unfold Sort.partitionEqual
                rw [← unhide HO]
                exact peq_brk a i j i' j' dk (unhide HI2) (unhide HJ2) (unhide HGT)
              go_returns
              rw [unhide HEN]
              exact ⟨rfl, unhide HS⟩
      · have hlei : ¬ (i' : Int) ≤ (j : Int) := by omega
        have hled : decide (i' ≤ j) = false := decide_eq_false hle
        have HI2 := hide ((unhide HSC).symm.trans (up_no (fun x => !ltB dk[a]! x) dk j i' (.inl hle)))
        have HLE := hide hle
        clear hle hii1 hii2 hia hjb HSC
        go_wp2
        go_quiet (first | fail)
        replace HS : Hid (So u (wr.drewN nq) g t N dk) := (unhide HS).drewN nq
        generalize wr.drewN nq = W1 at *
        go_wp2
        go_loopw [10] (fun sj wq => ∃ j' : Nat, sj = .int .i64 (j' : Int) ∧ (j' : Int) ≤ 17592186044416 ∧ Hid (j' ≤ j ∧ i' ≤ j' + 1) ∧ Hid (So u wq g t N dk) ∧ Hid (Sort.scanDown (fun x => ltB dk[a]! x) dk i' j' = Sort.scanDown (fun x => ltB dk[a]! x) dk i' j)) (fun sj _ => (intOf sj).toNat)
        case atStart => exact ⟨j, by first | rfl | go_num, by have := unhide HIJ; have := unhide HII; first | omega | assumption, ⟨Nat.le_refl _, (unhide HII).2⟩, HS, rfl⟩
        case round =>
          clear HS
          obtain ⟨j', rfl, hjb', HJJ, HS, HSD⟩ := hrel
          obtain ⟨hjj1, hjj2⟩ := unhide HJJ
          have hle2 : ¬ i' ≤ j' := by have := unhide HLE; omega
          have hle2i : ¬ (i' : Int) ≤ (j' : Int) := by omega
          have hle2d : decide (i' ≤ j') = false := decide_eq_false hle2
          have hgt : (i' : Int) > (j' : Int) := by omega
          have HJ2 := hide ((unhide HSD).symm.trans (dn_no (fun x => ltB dk[a]! x) dk i' j' (.inl hle2)))
          have HGT : Hid (i' > j') := by show _ > _; omega
          clear hle2 hjj1 hjj2 HSD
          go_wp2
          go_quiet (first | fail)
          replace HS : Hid (So u (wr.drewN nq) g t N dk) := (unhide HS).drewN nq
          generalize wr.drewN nq = W2 at *
          go_wp2
          have HEN : Hid (Sort.partitionEqual ltB d a b p = (i', dk)) := by
            show _ = _
            unfold Sort.partitionEqual
            rw [← unhide HO]
            exact peq_brk a i j i' j' dk (unhide HI2) (unhide HJ2) (unhide HGT)
          go_returns
          rw [unhide HEN]
          exact ⟨rfl, unhide HS⟩
end Go.Proofs.Ytopabadnbelegaa.K
