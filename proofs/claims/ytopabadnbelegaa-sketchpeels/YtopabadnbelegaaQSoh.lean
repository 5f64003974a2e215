/- Sorting numbers of 64 bits: partition. Written by mksog.py. -/
import Derived.Test.YtopabadnbelegaaQSog
import Derived.Sort.LotC
namespace Go.Proofs.Ytopabadnbelegaa.K
open Go.RowKit Go.Lib
set_option maxRecDepth 100000 in
set_option maxHeartbeats 6000000 in
theorem kPart (g c a b p n N : Nat) (t : TypeId) (d : Array (BitVec 64)) (u : World) (h : Rw u g t N d) (hn : n = d.size) (hap : a ≤ p) (hpb : p < b) (hb : b ≤ n) (hm : n ≤ 17592186044416) : Calls Try.prog 63 #[.slice (some ⟨g, 0, none⟩) n c, .int .i64 (a : Int), .int .i64 (b : Int), .int .i64 (p : Int)] u fun e u' => e = .returned (.tuple #[.int .i64 ((Sort.partition ltB d a b p).1 : Int), .bool (Sort.partition ltB d a b p).2.1]) ∧ So u u' g t N (Sort.partition ltB d a b p).2.2 := by
  have HI := hide (fun i (hi : i < n) => ixW g n c i hi)
  have hai : (a : Int) ≤ 17592186044416 := by omega
  have hbi : (b : Int) ≤ 17592186044416 := by omega
  have HL := hide (fun x y w => kLess x y w)
  have hza : a < d.size := by omega
  have hzp : p < d.size := by omega
  obtain ⟨ca, fa⟩ := h.cell a hza
  obtain ⟨cp, fp⟩ := h.cell p hzp
  have ixa := ixW g n c a (by omega)
  have ixp := ixW g n c p (by omega)
  have HSW := hide (So.swap ⟨h, Alt.refl _ _⟩ a p hza hzp)
  have HSZ : Hid ((Sort.swp d a p).size = n) := (swp_size d a p).trans hn.symm
  have HB := hide hb
  have HIJ0 : Hid (a < a + 1 ∧ a + 1 ≤ b - 1 + 1 ∧ b - 1 < b) := ⟨by omega, by omega, by omega⟩
  have hb1 : wrap64 ((b : Int) - 1) = ((b - 1 : Nat) : Int) := by simp only [wrap64]; omega
  have hb2 : (b : Int) - 1 = ((b - 1 : Nat) : Int) := by omega
  have hbl : ((b - 1 : Nat) : Int) ≤ 17592186044416 := by omega
  generalize d[a]! = ya at ca HSW
  generalize d[p]! = yp at cp HSW
  obtain ⟨v', hy'⟩ := cell?_setCell_some (p := ⟨g, a, none⟩) (x := .int .u64 yp.toNat) cp
  clear h hn hap hpb hb hm hza hzp
  obtain ⟨dk, hdk⟩ : ∃ dk, dk = Sort.swp d a p := ⟨_, rfl⟩
  have HDK := hide hdk
  rw [← hdk] at HSW
  have HZ : Hid (dk.size = n) := by rw [hdk]; exact HSZ
  obtain ⟨i0, hi0⟩ : ∃ i0, i0 = a + 1 := ⟨_, rfl⟩
  obtain ⟨j0, hj0⟩ : ∃ j0, j0 = b - 1 := ⟨_, rfl⟩
  have HI0 := hide hi0
  have HJ0 := hide hj0
  have hi0i : (a : Int) + 1 = (i0 : Int) := by omega
  rw [← hj0] at hb1 hb2 hbl
  have hi0b : (i0 : Int) ≤ 17592186044416 := by have := unhide HB; have := unhide HIJ0; omega
  have HIJ : Hid (a < i0 ∧ i0 ≤ j0 + 1 ∧ j0 < b) := by rw [hi0, hj0]; exact HIJ0
  clear hdk hi0 hj0 HIJ0 HSZ
  go_enter Try.func63, Try.ntmps63
  go_wp2
  go_region
  go_wp2
  have HS := hide (show So u _ g t N dk from ⟨(unhide HSW).rw'.drew, (unhide HSW).alt.drew⟩)
  clear hy' ca fa cp fp ixa ixp HSW
  go_wp2
  go_loopw [10] (fun si wq => ∃ i' : Nat, si = .int .i64 (i' : Int) ∧ (i' : Int) ≤ 17592186044416 ∧ Hid (i0 ≤ i' ∧ i' ≤ j0 + 1) ∧ Hid (So u wq g t N dk) ∧ Hid (Sort.scanUp (fun x => ltB x dk[a]!) dk j0 i' = Sort.scanUp (fun x => ltB x dk[a]!) dk j0 i0)) (fun si _ => j0 + 1 - (intOf si).toNat)
  case atStart => exact ⟨i0, by first | rfl | go_num, hi0b, ⟨Nat.le_refl _, (unhide HIJ).2.1⟩, HS, rfl⟩
  case round =>
    clear HS
    obtain ⟨i', rfl, hib', HII, HS, HSC⟩ := hrel
    obtain ⟨hii1, hii2⟩ := unhide HII
    have hia := (unhide HIJ).1
    have hjb := (unhide HIJ).2.2
    by_cases hle : i' ≤ j0
    · have hlei : (i' : Int) ≤ (j0 : Int) := by omega
      have hza : a < dk.size := by rw [unhide HZ]; have := unhide HB; omega
      obtain ⟨cya, fya⟩ := (unhide HS).rw'.cell a hza
      have ixya := unhide HI a (by rw [unhide HZ] at hza; exact hza)
      obtain ⟨ya, hya⟩ : ∃ ya, ya = dk[a]! := ⟨_, rfl⟩
      rw [← hya] at cya
      have Hya := hide hya.symm
      have HZya := hide hza
      clear hya hza
      have hzi : i' < dk.size := by rw [unhide HZ]; have := unhide HB; omega
      obtain ⟨cyi, fyi⟩ := (unhide HS).rw'.cell i' hzi
      have ixyi := unhide HI i' (by rw [unhide HZ] at hzi; exact hzi)
      obtain ⟨yi, hyi⟩ : ∃ yi, yi = dk[i']! := ⟨_, rfl⟩
      rw [← hyi] at cyi
      have Hyi := hide hyi.symm
      have HZyi := hide hzi
      clear hyi hzi
      have HLE := hide hle
      cases hls : ltB yi ya with
      | true =>
        have HLS := hide (fun w => unhide HL yi ya w)
        rw [hls] at HLS
        have HGO := hide ((up_go (fun x => ltB x dk[a]!) dk j0 i' hle (by show ltB dk[i']! dk[a]! = true; rw [unhide Hya, unhide Hyi, hls])).symm.trans (unhide HSC))
        have HI2 : Hid (i0 ≤ i' + 1 ∧ i' + 1 ≤ j0 + 1) := ⟨by omega, by omega⟩
        have hib2 : ((i' + 1 : Nat) : Int) ≤ 17592186044416 := by omega
        clear hls hle hii1 hii2 hia hjb
        go_wp2
        go_quiet (first | exact Calls.quiet_of_same (unhide HLS _) | fail)
        go_wp2
        go_roundw
        case rel => exact ⟨i' + 1, by go_num, hib2, HI2, (unhide HS).drewN nq, HGO⟩
        case measure => have := unhide HLE; simp [intOf]; omega
      | false =>
        have HLS := hide (fun w => unhide HL yi ya w)
        rw [hls] at HLS
        have HI2 := hide ((unhide HSC).symm.trans (up_no (fun x => ltB x dk[a]!) dk j0 i' (.inr (by show ltB dk[i']! dk[a]! = false; rw [unhide Hya, unhide Hyi, hls]))))
        clear hls hle hii1 hii2 hia hjb HSC
        go_wp2
        go_quiet (first | exact Calls.quiet_of_same (unhide HLS _) | fail)
        replace HS : Hid (So u (wr.drewN nq) g t N dk) := (unhide HS).drewN nq
        generalize wr.drewN nq = W1 at *
        clear cya fya cyi fyi ixya ixyi HLS
        go_wp2
        go_loopw [11] (fun sj wq => ∃ j' : Nat, sj = .int .i64 (j' : Int) ∧ (j' : Int) ≤ 17592186044416 ∧ Hid (j' ≤ j0 ∧ i' ≤ j' + 1) ∧ Hid (So u wq g t N dk) ∧ Hid (Sort.scanDown (fun x => !ltB x dk[a]!) dk i' j' = Sort.scanDown (fun x => !ltB x dk[a]!) dk i' j0)) (fun sj _ => (intOf sj).toNat)
        case atStart => exact ⟨j0, by first | rfl | go_num, hbl, ⟨Nat.le_refl _, (unhide HII).2⟩, HS, rfl⟩
        case round =>
          clear HS
          obtain ⟨j', rfl, hjb', HJJ, HS, HSD⟩ := hrel
          obtain ⟨hjj1, hjj2⟩ := unhide HJJ
          by_cases hle2 : i' ≤ j'
          · have hle2i : (i' : Int) ≤ (j' : Int) := by omega
            have hia := (unhide HIJ).1
            have hii1 := (unhide HII).1
            have hjb := (unhide HIJ).2.2
            have hza : a < dk.size := by rw [unhide HZ]; have := unhide HB; omega
            obtain ⟨cya, fya⟩ := (unhide HS).rw'.cell a hza
            have ixya := unhide HI a (by rw [unhide HZ] at hza; exact hza)
            obtain ⟨ya, hya⟩ : ∃ ya, ya = dk[a]! := ⟨_, rfl⟩
            rw [← hya] at cya
            have Hya := hide hya.symm
            have HZya := hide hza
            clear hya hza
            have hzj : j' < dk.size := by rw [unhide HZ]; have := unhide HB; omega
            obtain ⟨cyj, fyj⟩ := (unhide HS).rw'.cell j' hzj
            have ixyj := unhide HI j' (by rw [unhide HZ] at hzj; exact hzj)
            obtain ⟨yj, hyj⟩ : ∃ yj, yj = dk[j']! := ⟨_, rfl⟩
            rw [← hyj] at cyj
            have Hyj := hide hyj.symm
            have HZyj := hide hzj
            clear hyj hzj
            have HLE2 := hide hle2
            cases hls : ltB yj ya with
            | false =>
              have HLS := hide (fun w => unhide HL yj ya w)
              rw [hls] at HLS
              have HGO := hide ((dn_go (fun x => !ltB x dk[a]!) dk i' j' hle2 (by omega) (by show (!ltB dk[j']! dk[a]!) = true; rw [unhide Hya, unhide Hyj, hls]; rfl)).symm.trans (unhide HSD))
              have HJ2 : Hid (j' - 1 ≤ j0 ∧ i' ≤ j' - 1 + 1) := ⟨by omega, by omega⟩
              have hj1 : wrap64 ((j' : Int) - 1) = ((j' - 1 : Nat) : Int) := by simp only [wrap64]; omega
              have HJM : Hid ((j' : Int) - 1 = ((j' - 1 : Nat) : Int)) := by show _ = _; omega
              have HJP : Hid (0 < j') := by show 0 < _; omega
              clear hls hle2 hjj1 hjj2 hia hii1 hjb
              go_wp2
              go_quiet (first | exact Calls.quiet_of_same (unhide HLS _) | fail)
              go_wp2
              go_roundw
              case rel => exact ⟨j' - 1, by first | rw [hj1] | rw [unhide HJM], by omega, HJ2, (unhide HS).drewN nq, HGO⟩
              case measure => first | rw [hj1] | rw [unhide HJM]; have := unhide HJP; show ((j' - 1 : Nat) : Int).toNat < (j' : Int).toNat; omega
            | true =>
              have HLS := hide (fun w => unhide HL yj ya w)
              rw [hls] at HLS
              have HJ2 := hide ((unhide HSD).symm.trans (dn_no (fun x => !ltB x dk[a]!) dk i' j' (.inr (by show (!ltB dk[j']! dk[a]!) = false; rw [unhide Hya, unhide Hyj, hls]; rfl))))
              have HNG : Hid (¬ i' > j') := by show ¬ _; omega
              have hgt : ¬ (i' : Int) > (j' : Int) := by omega
              clear hls hle2 hjj1 hjj2 hia hii1 hjb HSD
              go_wp2
              go_quiet (first | exact Calls.quiet_of_same (unhide HLS _) | fail)
              replace HS : Hid (So u (wr.drewN nq) g t N dk) := (unhide HS).drewN nq
              generalize wr.drewN nq = W2 at *
              clear cya fya cyj fyj ixya ixyj HLS
              have hx := prt_ne a i0 j0 i' j' dk (unhide HI2) (unhide HJ2) (by have := unhide HNG; omega) (by have := unhide HIJ; have := unhide HII; omega)
              have HPG0 := part_go a b p i' j' d dk (unhide HDK) (by rw [← unhide HJ0, ← unhide HI0]; exact unhide HI2) (by rw [← unhide HJ0]; exact unhide HJ2) (unhide HNG)
              obtain ⟨i1, hi1⟩ : ∃ i1, i1 = i' + 1 := ⟨_, rfl⟩
              obtain ⟨j1, hj1⟩ : ∃ j1, j1 = j' - 1 := ⟨_, rfl⟩
              have HI1 : Hid ((i' : Int) + 1 = (i1 : Int)) := by show _ = _; omega
              have HJ1 : Hid ((j' : Int) - 1 = (j1 : Int)) := by have := unhide HIJ; have := unhide HII; show _ = _; omega
              have hb3 : (i1 : Int) ≤ 17592186044416 := by have := unhide HIJ; have := unhide HJJ; omega
              have hb4 : (j1 : Int) ≤ 17592186044416 := by have := unhide HIJ; have := unhide HJJ; omega
              have HJW : Hid (wrap64 ((j' : Int) - 1) = (j1 : Int)) := by show _ = _; rw [unhide HJ1]; simp only [wrap64]; omega
              have HIJ1 : Hid (a < i1 ∧ i1 ≤ j1 + 1 ∧ j1 < b) := by have := unhide HIJ; have := unhide HII; have := unhide HJJ; show _ ∧ _ ∧ _; exact ⟨by omega, by omega, by omega⟩
              rw [← hi1, ← hj1] at HPG0
              have HPG1 := hide HPG0
              clear HPG0 hx hi1 hj1
              have hz1 : i' < dk.size := by rw [unhide HZ]; have := unhide HB; have := unhide HIJ; have := unhide HII; have := unhide HJJ; have := unhide HNG; omega
              have hz2 : j' < dk.size := by rw [unhide HZ]; have := unhide HB; have := unhide HIJ; have := unhide HJJ; omega
              obtain ⟨c1, f1⟩ := (unhide HS).rw'.cell i' hz1
              obtain ⟨c2, f2⟩ := (unhide HS).rw'.cell j' hz2
              have ix1 := unhide HI i' (by rw [unhide HZ] at hz1; exact hz1)
              have ix2 := unhide HI j' (by rw [unhide HZ] at hz2; exact hz2)
              have HSW := hide ((unhide HS).swap i' j' hz1 hz2)
              have HSS : Hid ((Sort.swp dk i' j').size = n) := (swp_size dk i' j').trans (unhide HZ)
              generalize dk[i']! = y1 at c1 c2 HSW
              generalize dk[j']! = y2 at c1 c2 HSW
              obtain ⟨v3, hy3⟩ := cell?_setCell_some (p := ⟨g, i', none⟩) (x := .int .u64 y2.toNat) c2
              clear hz1 hz2
              go_wp2
              go_region
              go_wp2
              have HPG0 := unhide HPG1
              generalize he1 : Sort.swp dk i' j' = e1 at *
              have HPG := hide HPG0
              clear HPG0 HPG1 he1
              rw [unhide HI1]
              first | rw [unhide HJW] | rw [unhide HJ1]
              rw [show decide (j' < i') = false from decide_eq_false (unhide HNG)]
              go_loopw [10, 11] (fun s10 s11 wr => ∃ (i j : Nat) (dk : Array (BitVec 64)), s10 = .int .i64 (i : Int) ∧ s11 = .int .i64 (j : Int) ∧ (i : Int) ≤ 17592186044416 ∧ (j : Int) ≤ 17592186044416 ∧ Hid (a < i ∧ i ≤ j + 1 ∧ j < b) ∧ Hid (dk.size = n) ∧ Hid (So u wr g t N dk) ∧ Hid (Sort.partLoop ltB a i j dk = Sort.partLoop ltB a i1 j1 e1)) (fun s10 s11 _ => (intOf s11).toNat + 1 - (intOf s10).toNat)
              case atStart => exact ⟨i1, j1, e1, rfl, rfl, hb3, hb4, HIJ1, HSS, ⟨(unhide HSW).rw'.drew, (unhide HSW).alt.drew⟩, rfl⟩
              case round =>
                clear HSW HSS HIJ1 hy3 c1 c2 f1 f2 ix1 ix2 HI1 HJ1 HJW hb3 hb4 HII HJJ HI2 HJ2 HNG HIJ HZ HLE HLE2
                obtain ⟨i, j, dk, rfl, rfl, hib, hjb0, HIJ, HZ, HS, HO⟩ := hrel
                go_wp2
                go_loopw [10] (fun si wq => ∃ i' : Nat, si = .int .i64 (i' : Int) ∧ (i' : Int) ≤ 17592186044416 ∧ Hid (i ≤ i' ∧ i' ≤ j + 1) ∧ Hid (So u wq g t N dk) ∧ Hid (Sort.scanUp (fun x => ltB x dk[a]!) dk j i' = Sort.scanUp (fun x => ltB x dk[a]!) dk j i)) (fun si _ => j + 1 - (intOf si).toNat)
                case atStart => exact ⟨i, by first | rfl | go_num, by have := unhide HIJ; first | omega | assumption, ⟨Nat.le_refl _, (unhide HIJ).2.1⟩, HS, rfl⟩
                case round =>
                  clear HS
                  obtain ⟨i', rfl, hib', HII, HS, HSC⟩ := hrel
                  obtain ⟨hii1, hii2⟩ := unhide HII
                  have hia := (unhide HIJ).1
                  have hjb := (unhide HIJ).2.2
                  by_cases hle : i' ≤ j
                  · have hlei : (i' : Int) ≤ (j : Int) := by omega
                    have hza : a < dk.size := by rw [unhide HZ]; have := unhide HB; omega
                    obtain ⟨cya, fya⟩ := (unhide HS).rw'.cell a hza
                    have ixya := unhide HI a (by rw [unhide HZ] at hza; exact hza)
                    obtain ⟨ya, hya⟩ : ∃ ya, ya = dk[a]! := ⟨_, rfl⟩
                    rw [← hya] at cya
                    have Hya := hide hya.symm
                    have HZya := hide hza
                    clear hya hza
                    have hzi : i' < dk.size := by rw [unhide HZ]; have := unhide HB; omega
                    obtain ⟨cyi, fyi⟩ := (unhide HS).rw'.cell i' hzi
                    have ixyi := unhide HI i' (by rw [unhide HZ] at hzi; exact hzi)
                    obtain ⟨yi, hyi⟩ : ∃ yi, yi = dk[i']! := ⟨_, rfl⟩
                    rw [← hyi] at cyi
                    have Hyi := hide hyi.symm
                    have HZyi := hide hzi
                    clear hyi hzi
                    have HLE := hide hle
                    cases hls : ltB yi ya with
                    | true =>
                      have HLS := hide (fun w => unhide HL yi ya w)
                      rw [hls] at HLS
                      have HGO := hide ((up_go (fun x => ltB x dk[a]!) dk j i' hle (by show ltB dk[i']! dk[a]! = true; rw [unhide Hya, unhide Hyi, hls])).symm.trans (unhide HSC))
                      have HI2 : Hid (i ≤ i' + 1 ∧ i' + 1 ≤ j + 1) := ⟨by omega, by omega⟩
                      have hib2 : ((i' + 1 : Nat) : Int) ≤ 17592186044416 := by omega
                      clear hls hle hii1 hii2 hia hjb
                      go_wp2
                      go_quiet (first | exact Calls.quiet_of_same (unhide HLS _) | fail)
                      go_wp2
                      go_roundw
                      case rel => exact ⟨i' + 1, by go_num, hib2, HI2, (unhide HS).drewN nq, HGO⟩
                      case measure => have := unhide HLE; simp [intOf]; omega
                    | false =>
                      have HLS := hide (fun w => unhide HL yi ya w)
                      rw [hls] at HLS
                      have HI2 := hide ((unhide HSC).symm.trans (up_no (fun x => ltB x dk[a]!) dk j i' (.inr (by show ltB dk[i']! dk[a]! = false; rw [unhide Hya, unhide Hyi, hls]))))
                      clear hls hle hii1 hii2 hia hjb HSC
                      go_wp2
                      go_quiet (first | exact Calls.quiet_of_same (unhide HLS _) | fail)
                      replace HS : Hid (So u (wr.drewN nq) g t N dk) := (unhide HS).drewN nq
                      generalize wr.drewN nq = W1 at *
                      clear cya fya cyi fyi ixya ixyi HLS
                      go_wp2
                      go_loopw [11] (fun sj wq => ∃ j' : Nat, sj = .int .i64 (j' : Int) ∧ (j' : Int) ≤ 17592186044416 ∧ Hid (j' ≤ j ∧ i' ≤ j' + 1) ∧ Hid (So u wq g t N dk) ∧ Hid (Sort.scanDown (fun x => !ltB x dk[a]!) dk i' j' = Sort.scanDown (fun x => !ltB x dk[a]!) dk i' j)) (fun sj _ => (intOf sj).toNat)
                      case atStart => exact ⟨j, by first | rfl | go_num, by have := unhide HIJ; have := unhide HII; first | omega | assumption, ⟨Nat.le_refl _, (unhide HII).2⟩, HS, rfl⟩
                      case round =>
                        clear HS
                        obtain ⟨j', rfl, hjb', HJJ, HS, HSD⟩ := hrel
                        obtain ⟨hjj1, hjj2⟩ := unhide HJJ
                        by_cases hle2 : i' ≤ j'
                        · have hle2i : (i' : Int) ≤ (j' : Int) := by omega
                          have hia := (unhide HIJ).1
                          have hii1 := (unhide HII).1
                          have hjb := (unhide HIJ).2.2
                          have hza : a < dk.size := by rw [unhide HZ]; have := unhide HB; omega
                          obtain ⟨cya, fya⟩ := (unhide HS).rw'.cell a hza
                          have ixya := unhide HI a (by rw [unhide HZ] at hza; exact hza)
                          obtain ⟨ya, hya⟩ : ∃ ya, ya = dk[a]! := ⟨_, rfl⟩
                          rw [← hya] at cya
                          have Hya := hide hya.symm
                          have HZya := hide hza
                          clear hya hza
                          have hzj : j' < dk.size := by rw [unhide HZ]; have := unhide HB; omega
                          obtain ⟨cyj, fyj⟩ := (unhide HS).rw'.cell j' hzj
                          have ixyj := unhide HI j' (by rw [unhide HZ] at hzj; exact hzj)
                          obtain ⟨yj, hyj⟩ : ∃ yj, yj = dk[j']! := ⟨_, rfl⟩
                          rw [← hyj] at cyj
                          have Hyj := hide hyj.symm
                          have HZyj := hide hzj
                          clear hyj hzj
                          have HLE2 := hide hle2
                          cases hls : ltB yj ya with
                          | false =>
                            have HLS := hide (fun w => unhide HL yj ya w)
                            rw [hls] at HLS
                            have HGO := hide ((dn_go (fun x => !ltB x dk[a]!) dk i' j' hle2 (by omega) (by show (!ltB dk[j']! dk[a]!) = true; rw [unhide Hya, unhide Hyj, hls]; rfl)).symm.trans (unhide HSD))
                            have HJ2 : Hid (j' - 1 ≤ j ∧ i' ≤ j' - 1 + 1) := ⟨by omega, by omega⟩
                            have hj1 : wrap64 ((j' : Int) - 1) = ((j' - 1 : Nat) : Int) := by simp only [wrap64]; omega
                            have HJM : Hid ((j' : Int) - 1 = ((j' - 1 : Nat) : Int)) := by show _ = _; omega
                            have HJP : Hid (0 < j') := by show 0 < _; omega
                            clear hls hle2 hjj1 hjj2 hia hii1 hjb
                            go_wp2
                            go_quiet (first | exact Calls.quiet_of_same (unhide HLS _) | fail)
                            go_wp2
                            go_roundw
                            case rel => exact ⟨j' - 1, by first | rw [hj1] | rw [unhide HJM], by omega, HJ2, (unhide HS).drewN nq, HGO⟩
                            case measure => first | rw [hj1] | rw [unhide HJM]; have := unhide HJP; show ((j' - 1 : Nat) : Int).toNat < (j' : Int).toNat; omega
                          | true =>
                            have HLS := hide (fun w => unhide HL yj ya w)
                            rw [hls] at HLS
                            have HJ2 := hide ((unhide HSD).symm.trans (dn_no (fun x => !ltB x dk[a]!) dk i' j' (.inr (by show (!ltB dk[j']! dk[a]!) = false; rw [unhide Hya, unhide Hyj, hls]; rfl))))
                            have HNG : Hid (¬ i' > j') := by show ¬ _; omega
                            have hgt : ¬ (i' : Int) > (j' : Int) := by omega
                            clear hls hle2 hjj1 hjj2 hia hii1 hjb HSD
                            go_wp2
                            go_quiet (first | exact Calls.quiet_of_same (unhide HLS _) | fail)
                            replace HS : Hid (So u (wr.drewN nq) g t N dk) := (unhide HS).drewN nq
                            generalize wr.drewN nq = W2 at *
                            clear cya fya cyj fyj ixya ixyj HLS
                            have hz1 : i' < dk.size := by rw [unhide HZ]; have := unhide HB; have := unhide HIJ; have := unhide HII; have := unhide HJJ; have := unhide HNG; omega
                            have hz2 : j' < dk.size := by rw [unhide HZ]; have := unhide HB; have := unhide HIJ; have := unhide HJJ; omega
                            obtain ⟨c1, f1⟩ := (unhide HS).rw'.cell i' hz1
                            obtain ⟨c2, f2⟩ := (unhide HS).rw'.cell j' hz2
                            have ix1 := unhide HI i' (by rw [unhide HZ] at hz1; exact hz1)
                            have ix2 := unhide HI j' (by rw [unhide HZ] at hz2; exact hz2)
                            have HSW := hide ((unhide HS).swap i' j' hz1 hz2)
                            have HSS : Hid ((Sort.swp dk i' j').size = n) := (swp_size dk i' j').trans (unhide HZ)
                            generalize dk[i']! = y1 at c1 c2 HSW
                            generalize dk[j']! = y2 at c1 c2 HSW
                            obtain ⟨v3, hy3⟩ := cell?_setCell_some (p := ⟨g, i', none⟩) (x := .int .u64 y2.toNat) c2
                            clear hz1 hz2
                            go_wp2
                            go_region
                            go_wp2
                            go_roundw
                            case rel =>
                              refine ⟨i' + 1, j' - 1, _, by go_num, ?_, by have := unhide HII; have := unhide HJJ; have := unhide HIJ; have := unhide HNG; omega, ?_, ?_, HSS, ⟨(unhide HSW).rw'.drew, (unhide HSW).alt.drew⟩, ?_⟩
                              · have q1 : wrap64 ((j' : Int) - 1) = ((j' - 1 : Nat) : Int) := by have := unhide HIJ; have := unhide HII; have := unhide HNG; simp only [wrap64]; omega
                                have q2 : (j' : Int) - 1 = ((j' - 1 : Nat) : Int) := by have := unhide HIJ; have := unhide HII; have := unhide HNG; omega
                                first | rw [q1] | rw [q2]
                              · have := unhide HIJ; have := unhide HII; have := unhide HJJ; have := unhide HNG; omega
                              · have := unhide HIJ; have := unhide HII; have := unhide HJJ; have hx := prt_ne a i j i' j' dk (unhide HI2) (unhide HJ2) (by have := unhide HNG; omega) (by omega); show _ ∧ _ ∧ _; exact ⟨by omega, by omega, by omega⟩
                              · exact (prt_go a i j i' j' dk (unhide HI2) (unhide HJ2) (unhide HNG)).symm.trans (unhide HO)
                            case measure =>
                              have := unhide HIJ; have := unhide HII; have := unhide HJJ; have := unhide HNG
                              simp [intOf]
                              omega
                        · have hle2i : ¬ (i' : Int) ≤ (j' : Int) := by omega
                          have hle2d : decide (i' ≤ j') = false := decide_eq_false hle2
                          have hgt : (i' : Int) > (j' : Int) := by omega
                          have HJ2 := hide ((unhide HSD).symm.trans (dn_no (fun x => !ltB x dk[a]!) dk i' j' (.inl hle2)))
                          have HGT : Hid (i' > j') := by show _ > _; omega
                          clear hle2 hjj1 hjj2 HSD
                          go_wp2
                          go_quiet (first | fail)
                          replace HS : Hid (So u (wr.drewN nq) g t N dk) := (unhide HS).drewN nq
                          generalize wr.drewN nq = W2 at *
                          have hz1 : j' < dk.size := by rw [unhide HZ]; have := unhide HB; have := unhide HIJ; have := unhide HJJ; omega
                          have hz2 : a < dk.size := by rw [unhide HZ]; have := unhide HB; have := unhide HIJ; omega
                          obtain ⟨c1, f1⟩ := (unhide HS).rw'.cell j' hz1
                          obtain ⟨c2, f2⟩ := (unhide HS).rw'.cell a hz2
                          have ix1 := unhide HI j' (by rw [unhide HZ] at hz1; exact hz1)
                          have ix2 := unhide HI a (by rw [unhide HZ] at hz2; exact hz2)
                          have HSW := hide ((unhide HS).swap j' a hz1 hz2)
                          have HSS : Hid ((Sort.swp dk j' a).size = n) := (swp_size dk j' a).trans (unhide HZ)
                          generalize dk[j']! = y1 at c1 c2 HSW
                          generalize dk[a]! = y2 at c1 c2 HSW
                          obtain ⟨v3, hy3⟩ := cell?_setCell_some (p := ⟨g, j', none⟩) (x := .int .u64 y2.toNat) c2
                          clear hz1 hz2
                          go_wp2
                          go_region
                          go_wp2
                          have HEN : Hid (Sort.partition ltB d a b p = (j', false, Sort.swp dk j' a)) := unhide HPG (j', dk) ((prt_brk a i j i' j' dk (unhide HI2) (unhide HJ2) (unhide HGT)).symm.trans (unhide HO))
                          go_returns
                          rw [unhide HEN]
                          exact ⟨rfl, (unhide HSW).rw'.drew, (unhide HSW).alt.drew⟩
                  · have hlei : ¬ (i' : Int) ≤ (j : Int) := by omega
                    have hled : decide (i' ≤ j) = false := decide_eq_false hle
                    have HI2 := hide ((unhide HSC).symm.trans (up_no (fun x => ltB x dk[a]!) dk j i' (.inl hle)))
                    have HLE := hide hle
                    clear hle hii1 hii2 hia hjb HSC
                    go_wp2
                    go_quiet (first | fail)
                    replace HS : Hid (So u (wr.drewN nq) g t N dk) := (unhide HS).drewN nq
                    generalize wr.drewN nq = W1 at *
                    go_wp2
                    go_loopw [11] (fun sj wq => ∃ j' : Nat, sj = .int .i64 (j' : Int) ∧ (j' : Int) ≤ 17592186044416 ∧ Hid (j' ≤ j ∧ i' ≤ j' + 1) ∧ Hid (So u wq g t N dk) ∧ Hid (Sort.scanDown (fun x => !ltB x dk[a]!) dk i' j' = Sort.scanDown (fun x => !ltB x dk[a]!) dk i' j)) (fun sj _ => (intOf sj).toNat)
                    case atStart => exact ⟨j, by first | rfl | go_num, by have := unhide HIJ; have := unhide HII; first | omega | assumption, ⟨Nat.le_refl _, (unhide HII).2⟩, HS, rfl⟩
                    case round =>
                      clear HS
                      obtain ⟨j', rfl, hjb', HJJ, HS, HSD⟩ := hrel
                      obtain ⟨hjj1, hjj2⟩ := unhide HJJ
                      have hle2 : ¬ i' ≤ j' := by have := unhide HLE; omega
                      have hle2i : ¬ (i' : Int) ≤ (j' : Int) := by omega
                      have hle2d : decide (i' ≤ j') = false := decide_eq_false hle2
                      have hgt : (i' : Int) > (j' : Int) := by omega
                      have HJ2 := hide ((unhide HSD).symm.trans (dn_no (fun x => !ltB x dk[a]!) dk i' j' (.inl hle2)))
                      have HGT : Hid (i' > j') := by show _ > _; omega
                      clear hle2 hjj1 hjj2 HSD
                      go_wp2
                      go_quiet (first | fail)
                      replace HS : Hid (So u (wr.drewN nq) g t N dk) := (unhide HS).drewN nq
                      generalize wr.drewN nq = W2 at *
                      have hz1 : j' < dk.size := by rw [unhide HZ]; have := unhide HB; have := unhide HIJ; have := unhide HJJ; omega
                      have hz2 : a < dk.size := by rw [unhide HZ]; have := unhide HB; have := unhide HIJ; omega
                      obtain ⟨c1, f1⟩ := (unhide HS).rw'.cell j' hz1
                      obtain ⟨c2, f2⟩ := (unhide HS).rw'.cell a hz2
                      have ix1 := unhide HI j' (by rw [unhide HZ] at hz1; exact hz1)
                      have ix2 := unhide HI a (by rw [unhide HZ] at hz2; exact hz2)
                      have HSW := hide ((unhide HS).swap j' a hz1 hz2)
                      have HSS : Hid ((Sort.swp dk j' a).size = n) := (swp_size dk j' a).trans (unhide HZ)
                      generalize dk[j']! = y1 at c1 c2 HSW
                      generalize dk[a]! = y2 at c1 c2 HSW
                      obtain ⟨v3, hy3⟩ := cell?_setCell_some (p := ⟨g, j', none⟩) (x := .int .u64 y2.toNat) c2
                      clear hz1 hz2
                      go_wp2
                      go_region
                      go_wp2
                      have HEN : Hid (Sort.partition ltB d a b p = (j', false, Sort.swp dk j' a)) := unhide HPG (j', dk) ((prt_brk a i j i' j' dk (unhide HI2) (unhide HJ2) (unhide HGT)).symm.trans (unhide HO))
                      go_returns
                      rw [unhide HEN]
                      exact ⟨rfl, (unhide HSW).rw'.drew, (unhide HSW).alt.drew⟩
          · have hle2i : ¬ (i' : Int) ≤ (j' : Int) := by omega
            have hle2d : decide (i' ≤ j') = false := decide_eq_false hle2
            have hgt : (i' : Int) > (j' : Int) := by omega
            have HJ2 := hide ((unhide HSD).symm.trans (dn_no (fun x => !ltB x dk[a]!) dk i' j' (.inl hle2)))
            have HGT : Hid (i' > j') := by show _ > _; omega
            clear hle2 hjj1 hjj2 HSD
            go_wp2
            go_quiet (first | fail)
            replace HS : Hid (So u (wr.drewN nq) g t N dk) := (unhide HS).drewN nq
            generalize wr.drewN nq = W2 at *
            have hz1 : j' < dk.size := by rw [unhide HZ]; have := unhide HB; have := unhide HIJ; have := unhide HJJ; omega
            have hz2 : a < dk.size := by rw [unhide HZ]; have := unhide HB; have := unhide HIJ; omega
            obtain ⟨c1, f1⟩ := (unhide HS).rw'.cell j' hz1
            obtain ⟨c2, f2⟩ := (unhide HS).rw'.cell a hz2
            have ix1 := unhide HI j' (by rw [unhide HZ] at hz1; exact hz1)
            have ix2 := unhide HI a (by rw [unhide HZ] at hz2; exact hz2)
            have HSW := hide ((unhide HS).swap j' a hz1 hz2)
            have HSS : Hid ((Sort.swp dk j' a).size = n) := (swp_size dk j' a).trans (unhide HZ)
            generalize dk[j']! = y1 at c1 c2 HSW
            generalize dk[a]! = y2 at c1 c2 HSW
            obtain ⟨v3, hy3⟩ := cell?_setCell_some (p := ⟨g, j', none⟩) (x := .int .u64 y2.toNat) c2
            clear hz1 hz2
            go_wp2
            go_region
            go_wp2
            have HEN : Hid (Sort.partition ltB d a b p = (j', true, Sort.swp dk j' a)) := part_brk a b p i' j' d dk (unhide HDK) (by rw [← unhide HJ0, ← unhide HI0]; exact unhide HI2) (by rw [← unhide HJ0]; exact unhide HJ2) (unhide HGT)
            go_returns
            rw [unhide HEN]
            exact ⟨rfl, (unhide HSW).rw'.drew, (unhide HSW).alt.drew⟩
    · have hlei : ¬ (i' : Int) ≤ (j0 : Int) := by omega
      have hled : decide (i' ≤ j0) = false := decide_eq_false hle
      have HI2 := hide ((unhide HSC).symm.trans (up_no (fun x => ltB x dk[a]!) dk j0 i' (.inl hle)))
      have HLE := hide hle
      clear hle hii1 hii2 hia hjb HSC
      go_wp2
      go_quiet (first | fail)
      replace HS : Hid (So u (wr.drewN nq) g t N dk) := (unhide HS).drewN nq
      generalize wr.drewN nq = W1 at *
      go_wp2
      go_loopw [11] (fun sj wq => ∃ j' : Nat, sj = .int .i64 (j' : Int) ∧ (j' : Int) ≤ 17592186044416 ∧ Hid (j' ≤ j0 ∧ i' ≤ j' + 1) ∧ Hid (So u wq g t N dk) ∧ Hid (Sort.scanDown (fun x => !ltB x dk[a]!) dk i' j' = Sort.scanDown (fun x => !ltB x dk[a]!) dk i' j0)) (fun sj _ => (intOf sj).toNat)
      case atStart => exact ⟨j0, by first | rfl | go_num, hbl, ⟨Nat.le_refl _, (unhide HII).2⟩, HS, rfl⟩
      case round =>
        clear HS
        obtain ⟨j', rfl, hjb', HJJ, HS, HSD⟩ := hrel
        obtain ⟨hjj1, hjj2⟩ := unhide HJJ
        have hle2 : ¬ i' ≤ j' := by have := unhide HLE; omega
        have hle2i : ¬ (i' : Int) ≤ (j' : Int) := by omega
        have hle2d : decide (i' ≤ j') = false := decide_eq_false hle2
        have hgt : (i' : Int) > (j' : Int) := by omega
        have HJ2 := hide ((unhide HSD).symm.trans (dn_no (fun x => !ltB x dk[a]!) dk i' j' (.inl hle2)))
        have HGT : Hid (i' > j') := by show _ > _; omega
        clear hle2 hjj1 hjj2 HSD
        go_wp2
        go_quiet (first | fail)
        replace HS : Hid (So u (wr.drewN nq) g t N dk) := (unhide HS).drewN nq
        generalize wr.drewN nq = W2 at *
        have hz1 : j' < dk.size := by rw [unhide HZ]; have := unhide HB; have := unhide HIJ; have := unhide HJJ; omega
        have hz2 : a < dk.size := by rw [unhide HZ]; have := unhide HB; have := unhide HIJ; omega
        obtain ⟨c1, f1⟩ := (unhide HS).rw'.cell j' hz1
        obtain ⟨c2, f2⟩ := (unhide HS).rw'.cell a hz2
        have ix1 := unhide HI j' (by rw [unhide HZ] at hz1; exact hz1)
        have ix2 := unhide HI a (by rw [unhide HZ] at hz2; exact hz2)
        have HSW := hide ((unhide HS).swap j' a hz1 hz2)
        have HSS : Hid ((Sort.swp dk j' a).size = n) := (swp_size dk j' a).trans (unhide HZ)
        generalize dk[j']! = y1 at c1 c2 HSW
        generalize dk[a]! = y2 at c1 c2 HSW
        obtain ⟨v3, hy3⟩ := cell?_setCell_some (p := ⟨g, j', none⟩) (x := .int .u64 y2.toNat) c2
        clear hz1 hz2
        go_wp2
        go_region
        go_wp2
        have HEN : Hid (Sort.partition ltB d a b p = (j', true, Sort.swp dk j' a)) := part_brk a b p i' j' d dk (unhide HDK) (by rw [← unhide HJ0, ← unhide HI0]; exact unhide HI2) (by rw [← unhide HJ0]; exact unhide HJ2) (unhide HGT)
        go_returns
        rw [unhide HEN]
        exact ⟨rfl, (unhide HSW).rw'.drew, (unhide HSW).alt.drew⟩
end Go.Proofs.Ytopabadnbelegaa.K
