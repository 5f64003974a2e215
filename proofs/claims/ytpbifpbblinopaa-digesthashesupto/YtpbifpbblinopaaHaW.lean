/- The walk of DigestHashes. -/
import Derived.Test.YtpbifpbblinopaaHaP
namespace Go.Proofs.Ytpbifpbblinopaa
open Go.RowKit

set_option maxRecDepth 100000 in
set_option maxHeartbeats 4000000 in
theorem hashes_walk (l : List Stp) (ao : Option Addr) (cap : Nat) (w : World) (hx : Stps w ao l) (hl : l.length ≤ 1048576) (hw : wts l ≤ 1048576) :
    Calls Try.prog 6 #[.slice ao l.length cap] w fun e w' => e = .returned (.bool true) ∧ Below w.heap.size w w' := by
  obtain ⟨bh, hbh⟩ : ∃ bh, bh = w.heap.size := ⟨_, rfl⟩
  have HBW := hide hbh
  have HX := hide hx
  have HW := hide hw
  have hli : (l.length : Int) ≤ 1048576 := by omega
  clear hx hw hbh
  go_enter Try.func6, Try.ntmps6
  go_wp2_with (first | (refine wpList_alloc_row (by rfl) 43 (by rfl) (some 3) (by rfl) bh (by exact (unhide HBW).symm) (HPk 0 (fun _ => 0)) zeroH3 ?_; intro W1 HR1 HB1 HS1; simp only [Act.put, List.setIfInBounds_toArray, List.set_cons_zero, List.set_cons_succ]) | (refine wpList_alloc_row (by rfl) 44 (by rfl) (some 4) (by rfl) (bh + 1) (by exact unhide HS1) (MP MZ) zeroM3 ?_; intro W2 HR2 HB2 HS2; simp only [Act.put, List.setIfInBounds_toArray, List.set_cons_zero, List.set_cons_succ]))
  have HP : Hid (Pre w W2 bh (bh + 1) 0 (fun _ => 0)) := by
    have h1 := unhide HB1
    have h2 := unhide HB2
    have hw := unhide HBW
    rw [hw] at h1
    refine ⟨(h2.block bh (by omega)).trans (unhide HR1), unhide HR2, fun i hi => absurd hi (Nat.not_lt_zero _), fun i hi => absurd hi (Nat.not_lt_zero _), fun i j hi => absurd hi (Nat.not_lt_zero _), hw, by omega, h1.trans (h2.mono (by omega))⟩
  clear HR1 HB1 HS1 HR2 HB2 HS2
  generalize bh + 1 = bm at *
  go_loopw [5] (fun vi wr => ∃ (k : Nat) (H : Nat → Nat), k ≤ 3 ∧ vi = .int .i64 k ∧ Hid (Pre w wr bh bm k H)) (fun vi _ => 3 - (intOf vi).toNat)
  case atStart => exact ⟨0, _, Nat.zero_le _, rfl, HP⟩
  case round =>
    clear HP
    obtain ⟨k, H, hk, rfl, HP⟩ := hrel
    by_cases hlt : k < 3
    · have hki : (k : Int) < 3 := by omega
      go_wp2_with fail
      refine (dNew _).mono ?_
      rintro e W3 ⟨x, rfl, hge, hs, hb3⟩
      have HN := hide ((unhide HP).next hlt hb3 x hge hs)
      have hrow : W3.heap[bh]? = some (.cells (HPk k H) 43 (0, 0)) := (hb3.block bh (Array.getElem?_eq_some_iff.1 (unhide HP).rh).1).trans (unhide HP).rh
      have hce : W3.cell? ⟨bh, k, none⟩ = some (pk k H k) := by simp only [World.cell?, hrow]; exact HPk_at k H k hlt
      have hfz : W3.frozen? ⟨bh, k, none⟩ = false := by simp [World.frozen?, hrow]
      clear hrow hge hs hb3 HP
      generalize pk k H k = pv at *
      go_wp2
      go_roundw
      case rel => exact ⟨k + 1, upd H k x, by omega, by go_num, hide (unhide HN)⟩
      case measure => simp [intOf]; omega
    · have hk3 : k = 3 := by omega
      subst hk3
      have HS := hide (unhide HP).done
      clear HP
      go_wp2
      go_loopw [6] (fun vi wr => ∃ (k : Nat) (H : Nat → Nat) (M : Nat → Value) (ll : Nat → List UInt8), k ≤ l.length ∧ vi = .int .i64 k ∧ Hid (St3 w wr bh bm H M ll ll ∧ ∀ i, i < 3 → (ll i).length ≤ wts (l.take k))) (fun vi _ => l.length - (intOf vi).toNat)
      case atStart => exact ⟨0, H, MZ, fun _ => [], Nat.zero_le _, rfl, hide ⟨unhide HS, fun i _ => by simp⟩⟩
      case round =>
        clear HS
        obtain ⟨k, H, M, ll, hk, rfl, HI⟩ := hrel
        by_cases hlt : k < l.length
        · have hki : (k : Int) < (l.length : Int) := by omega
          obtain ⟨gs, os, hao, hgs, hat⟩ := (unhide HX).2.resolve_left (fun e => by rw [e] at hlt; exact absurd hlt (Nat.not_lt_zero _))
          have hok := (unhide HX).1 l[k] (List.getElem_mem hlt)
          have HST := hide (hat k hlt)
          have hwk := wts_take_succ l k hlt
          have hwle : wts (l.take (k + 1)) ≤ 1048576 := Nat.le_trans (wts_take_le l (k + 1)) (unhide HW)
          subst hao
          have HWK := hide hwk
          have HWL := hide hwle
          have HOK := hide hok
          clear hat hwk hwle hok
          generalize l[k] = x at *
          obtain ⟨kd, on, to, bo, bs, bc⟩ := x
          have hst := (unhide HST).below (unhide HI).1.bel hgs
          have hc0 : wr.cell? ⟨gs, os + k * 4, none⟩ = some (.int .i64 kd) := hst.c0
          have hc1 : wr.cell? ⟨gs, os + k * 4 + 1, none⟩ = some (.int .i64 on) := hst.c1
          have hc2 : wr.cell? ⟨gs, os + k * 4 + 2, none⟩ = some (.int .i64 to) := hst.c2
          have hc3 : wr.cell? ⟨gs, os + k * 4 + 3, none⟩ = some (.slice bo bs.length bc) := hst.c3
          have hkd := (unhide HOK).kind
          dsimp only at hkd
          have HBY := hide hst.by'
          have HC2 := hide hc2
          have HC3 := hide hc3
          clear hst hc2 hc3
          go_wp2_with fail
          refine (lThree _ _).mono ?_
          rintro e W3 ⟨a, ha, rfl, rfl⟩
          by_cases hk1 : kd = 1
          · subst hk1
            have hbl : bs.length ≤ 1048576 := by have h1 := unhide HWK; have h2 := unhide HWL; omega
            have hc3 := unhide HC3
            go_wp2_with fail
            refine (lLent bs bo bc _ (unhide HBY) (by omega)).mono ?_
            rintro e W4 ⟨g, c, rfl, hbr⟩
            have hlt3 : ∀ q, (q = bh ∨ q = bm ∨ (∃ i, i < 3 ∧ q = H i) ∨ ∃ i, i < 3 ∧ (M i).ownBlock = some q) → q ≠ g := by
              intro q hq e
              subst e
              have hge := hbr.ge
              have hk := (unhide HI).1
              rcases hq with rfl | rfl | ⟨i, hi, rfl⟩ | ⟨i, hi, he⟩
              · have := hk.bhlt; omega
              · have := hk.bmlt; omega
              · have := (hk.hs i hi).lt; omega
              · have := (hk.ms i hi).lt he; omega
            have hst4 := (unhide HI).1.below hbr.bel
            have hbw := hbr.base (w := w) (unhide HI).1.bel.size hst4.bel
            have hbl2 := hbr.le
            rw [List.length_append] at hbl2
            have HWR := hide (dWrite (H a) (ll a) bs (some ⟨g, 0, none⟩) c W4 (hst4.hs a ha) (fun _ => ⟨g, 0, rfl, Ne.symm (hlt3 _ (.inr (.inr (.inl ⟨a, ha, rfl⟩)))), fun j hj => by rw [Nat.zero_add]; exact hbr.front.cell j hj⟩) (by omega) (by have := (unhide HI).2 a ha; have := unhide HWK; have := unhide HWL; omega))
            have hh4 := (hst4.hcell a ha).1
            have HST4 := hide hst4
            have HBW4 := hide hbw
            have HL3 := hide hlt3
            clear hc3 hst4 hbw hbr hbl2 hlt3
            have hai : (a : Int) < 3 := by omega
            go_wp2_with fail
            refine (unhide HWR).mono ?_
            rintro e W5 ⟨rfl, hh5, hu5⟩
            have hst5 := (unhide HST4).hash a ha hu5 _ hh5
            have hb5 := (unhide HBW4).keep (hu5.block g (unhide HBW4).lt (Ne.symm (unhide HL3 _ (.inr (.inr (.inl ⟨a, ha, rfl⟩)))))) hst5.bel
            have hat5 := (unhide HST).below hst5.bel hgs
            have hc35 : W5.cell? ⟨gs, os + k * 4 + 3, none⟩ = some (.slice bo bs.length bc) := hat5.c3
            have HKP := hide (lKept bs g c bo bc w W5 hb5 hat5.by' (by omega))
            have HSP := hide (lSpoilB w g c bs.length W5 ⟨bs, rfl, hb5.front⟩ (by omega))
            have HST5 := hide hst5
            have HGE := hide hb5.ge
            clear hh5 hu5 hst5 hb5 hat5 hh4 HWR HST4 HBW4
            go_wp2_with fail
            refine (unhide HKP).mono ?_
            rintro e W5' ⟨rfl, rfl⟩
            clear hc35
            go_wp2_with fail
            refine (unhide HSP).mono ?_
            rintro e W6 ⟨rfl, hu6⟩
            have hst6 := (unhide HST5).other hu6 (.inr ⟨unhide HGE, Ne.symm (unhide HL3 _ (.inl rfl)), Ne.symm (unhide HL3 _ (.inr (.inl rfl))), fun i hi => Ne.symm (unhide HL3 _ (.inr (.inr (.inl ⟨i, hi, rfl⟩)))), fun i hi e => unhide HL3 g (.inr (.inr (.inr ⟨i, hi, e⟩))) rfl⟩)
            have HST6 := hide hst6
            clear hu6 hst6 HKP HSP HST5 HGE HL3 HBY HC3 HC2 hc0 hc1
            obtain ⟨v', WP, hrun, hmr, ⟨xb, hux, hxo⟩, hvo⟩ := ((unhide HST6).drew.ms a ha).put (unhide HST6).drew.bel.size (unhide HST6).drew.bel 24 bo bc bs ((unhide HST).below (unhide HST6).drew.bel hgs).by' (by have := (unhide HI).2 a ha; have := unhide HWK; have := unhide HWL; omega)
            obtain ⟨va, vn, vc, rfl⟩ : ∃ va vn vc, v' = .slice va vn vc := (by obtain ⟨p1, p2, p3, _⟩ := hmr.lies; exact ⟨p1, _, p2, p3⟩)
            obtain ⟨hstn, ⟨oc, hoc⟩, hofz⟩ := (unhide HST6).drew.append a ha (.slice va vn vc) (ll a ++ bs) hmr hux hxo hvo
            have hm1 := ((unhide HST6).drew.mcell a ha).1
            have hs3 : W6.drew.cell? ⟨gs, os + k * 4 + 3, none⟩ = some (.slice bo bs.length bc) := ((unhide HST).below (unhide HST6).drew.bel hgs).c3
            obtain ⟨H2, M2, l2, HSZ, HLE⟩ : ∃ H2 M2 l2, Hid (St3 w (WP.setCell ⟨bm, a, none⟩ (.slice va vn vc)) bh bm H2 M2 l2 l2) ∧ Hid (∀ i, i < 3 → (l2 i).length ≤ wts (l.take (k + 1))) := by
              refine ⟨H, upd M a (.slice va vn vc), upd ll a (ll a ++ bs), hide hstn, hide fun i hi => ?_⟩
              have h1 := (unhide HI).2 i hi
              have h2 := unhide HWK
              by_cases e : i = a
              · subst e; rw [upd_same, List.length_append]; omega
              · rw [upd_other _ _ _ _ e]; omega
            clear hstn hmr hux hxo hvo
            go_wp2
            refine wp_region_any (by kernel_rfl) ?_
            change wpAny _ _ _ _ _ _ _ (World.drew _)
            refine wpAny_take' 0 62 (.int .i64 (a : Int)) rfl rfl (by kernel_rfl) (by kernel_rfl) (by kernel_rfl) (fun _ _ _ h => h) rfl (fun u => by go_simp) ?_
            simp only [Act.put, List.setIfInBounds_toArray, List.set_cons_zero, List.set_cons_succ]
            refine wpAny_take' 1 63 (.int .i64 (a : Int)) rfl rfl (by kernel_rfl) (by kernel_rfl) (by kernel_rfl) (fun _ _ _ h => h) rfl (fun u => by go_simp) ?_
            simp only [Act.put, List.setIfInBounds_toArray, List.set_cons_zero, List.set_cons_succ]
            refine wpAny_take' 2 64 (.pointer (some ⟨bm, a, none⟩)) rfl rfl (by kernel_rfl) (by kernel_rfl) (by kernel_rfl) (fun _ _ _ h => h) rfl (fun u => by go_simp) ?_
            simp only [Act.put, List.setIfInBounds_toArray, List.set_cons_zero, List.set_cons_succ]
            refine wpAny_take' 4 66 (.slice (some ⟨gs, os, none⟩) l.length cap) rfl rfl (by kernel_rfl) (by kernel_rfl) (by kernel_rfl) (fun _ _ _ h => h) rfl (fun u => by go_simp) ?_
            simp only [Act.put, List.setIfInBounds_toArray, List.set_cons_zero, List.set_cons_succ]
            refine wpAny_take' 5 67 (.int .i64 (k : Int)) rfl rfl (by kernel_rfl) (by kernel_rfl) (by kernel_rfl) (fun _ _ _ h => h) rfl (fun u => by go_simp) ?_
            simp only [Act.put, List.setIfInBounds_toArray, List.set_cons_zero, List.set_cons_succ]
            refine wpAny_take' 6 68 (.pointer (some ⟨gs, os + k * 4, none⟩)) rfl rfl (by kernel_rfl) (by kernel_rfl) (by kernel_rfl) (fun _ _ _ h => h) rfl (fun u => by go_simp) ?_
            simp only [Act.put, List.setIfInBounds_toArray, List.set_cons_zero, List.set_cons_succ]
            refine wpAny_take' 7 69 (.pointer (some ⟨gs, os + k * 4 + 3, none⟩)) rfl rfl (by kernel_rfl) (by kernel_rfl) (by kernel_rfl) (fun _ _ _ h => h) rfl (fun u => by go_simp) ?_
            simp only [Act.put, List.setIfInBounds_toArray, List.set_cons_zero, List.set_cons_succ]
            refine wpAny_pair (i := 3) (j := 8) (vi := M a) (vj := .slice bo bs.length bc) (by kernel_rfl) (by kernel_rfl) (by kernel_rfl) (by kernel_rfl) rfl rfl rfl rfl 65 70 (by decide)
              (fun K hK => by go_simp; exact hK) (fun K hK => by go_simp; exact hK) (fun K hK => by go_simp; exact hK) (fun K hK => by go_simp; exact hK) ?_
            simp only [Act.put, List.setIfInBounds_toArray, List.set_cons_zero, List.set_cons_succ]
            refine wpAny_one (i := 9) (by kernel_rfl) rfl rfl fun K hK => wp_append_to _ (.tmp 65) (.tmp 70) 24 24 rfl (some 71) rfl 24 rfl _ _ rfl rfl (.slice va vn vc) WP hrun (hK _ _ ?_)
            clear hK K hrun hm1 hs3
            simp only [Act.put, List.setIfInBounds_toArray, List.set_cons_zero, List.set_cons_succ]
            refine wpAny_take' 10 72 (.pointer (some ⟨bm, a, none⟩)) rfl rfl (by kernel_rfl) (by kernel_rfl) (by kernel_rfl) (fun _ _ _ h => h) rfl (fun u => by go_simp) ?_
            simp only [Act.put, List.setIfInBounds_toArray, List.set_cons_zero, List.set_cons_succ]
            refine wpAny_one (i := 11) (by kernel_rfl) rfl rfl fun K hK => ?_
            go_simp
            refine hK _ _ ?_
            clear hK K hoc hofz
            refine wpAny_done (by kernel_rfl) ?_ _
            generalize WP.setCell ⟨bm, a, none⟩ (.slice va vn vc) = WZ at *
            clear HST6 HI hai
            obtain ⟨am, cm, hMa, _⟩ := ((unhide HSZ).ms a ha).lies
            have HMA := hide hMa
            clear hMa
            have hnl : (l2 a).length ≤ 1048576 := Nat.le_trans (unhide HLE a ha) (unhide HWL)
            have HLN : Hid (∀ u, Hs u (H2 a) (l2 a) → Calls Try.prog 32 #[.pointer (some ⟨H2 a, 0, none⟩)] u fun e w' => e = .returned (.int .u64 ((l2 a).length : Int)) ∧ w' = u) := hide fun u hu => dLen _ _ u hu
            generalize hnle : (l2 a).length = nl at *
            clear hnle
            have hnli : (nl : Int) ≤ 1048576 := by omega
            have hwu : IntKind.u64.wrap (nl : Int) = (nl : Int) := by rw [IntKind.wrap_u64]; omega
            have hai : (a : Int) < 3 := by omega
            go_wp2
            refine wp_region_held (S := fun u => St3 w u bh bm H2 M2 l2 l2) (by kernel_rfl) ?_
            change wpAnyH _ _ _ _ _ _ _ _ (World.drew _)
            have hS := (unhide HSZ).drew
            refine wpAnyH_take' 0 141 (.int .i64 (a : Int)) rfl rfl (by kernel_rfl) (by kernel_rfl) (by kernel_rfl) (fun _ _ _ h => h) (by rfl) (fun u _ => by go_simp) hS ?_
            simp only [Act.put, List.setIfInBounds_toArray, List.set_cons_zero, List.set_cons_succ]
            refine wpAnyH_take' 1 142 (.pointer (some ⟨bh, a, none⟩)) rfl rfl (by kernel_rfl) (by kernel_rfl) (by kernel_rfl) (fun _ _ _ h => h) (by rfl) (fun u _ => by go_simp) hS ?_
            simp only [Act.put, List.setIfInBounds_toArray, List.set_cons_zero, List.set_cons_succ]
            refine wpAnyH_take' 2 143 (.pointer (some ⟨H2 a, 0, none⟩)) rfl rfl (by kernel_rfl) (by kernel_rfl) (by kernel_rfl) (fun _ _ _ h => h) (by rfl) (fun u hu => by have hq := (hu.hcell a ha).1; go_simp) hS ?_
            simp only [Act.put, List.setIfInBounds_toArray, List.set_cons_zero, List.set_cons_succ]
            refine wpAnyH_take' 4 145 (.int .i64 (a : Int)) rfl rfl (by kernel_rfl) (by kernel_rfl) (by kernel_rfl) (fun _ _ _ h => h) (by rfl) (fun u _ => by go_simp) hS ?_
            simp only [Act.put, List.setIfInBounds_toArray, List.set_cons_zero, List.set_cons_succ]
            refine wpAnyH_take' 5 146 (.pointer (some ⟨bm, a, none⟩)) rfl rfl (by kernel_rfl) (by kernel_rfl) (by kernel_rfl) (fun _ _ _ h => h) (by rfl) (fun u _ => by go_simp) hS ?_
            simp only [Act.put, List.setIfInBounds_toArray, List.set_cons_zero, List.set_cons_succ]
            refine wpAnyH_take' 6 147 (.slice am nl cm) rfl rfl (by kernel_rfl) (by kernel_rfl) (by kernel_rfl) (fun _ _ _ h => h) (by rfl) (fun u hu => by have hq := (hu.mcell a ha).1; rw [unhide HMA] at hq; go_simp) hS ?_
            simp only [Act.put, List.setIfInBounds_toArray, List.set_cons_zero, List.set_cons_succ]
            refine wpAnyH_take' 7 148 (.int .i64 (nl : Int)) rfl rfl (by kernel_rfl) (by kernel_rfl) (by kernel_rfl) (fun _ _ _ h => h) (by rfl) (fun u _ => by go_simp) hS ?_
            simp only [Act.put, List.setIfInBounds_toArray, List.set_cons_zero, List.set_cons_succ]
            refine wpAnyH_take' 8 149 (.int .u64 (nl : Int)) rfl rfl (by kernel_rfl) (by kernel_rfl) (by kernel_rfl) (fun _ _ _ h => h) (by rfl) (fun u _ => by go_simp) hS ?_
            simp only [Act.put, List.setIfInBounds_toArray, List.set_cons_zero, List.set_cons_succ]
            refine wpAnyH_one (i := 3) (by kernel_rfl) rfl (by rfl) fun K hK => ?_
            go_simp
            refine (unhide HLN _ (hS.hs a ha)).mono ?_
            rintro e WL ⟨rfl, rfl⟩
            refine hK _ _ hS ?_
            clear hK K
            refine wpAnyH_take' 9 150 (.bool false) rfl rfl (by kernel_rfl) (by kernel_rfl) (by kernel_rfl) (fun _ _ _ h => h) (by rfl) (fun u _ => by go_simp) hS ?_
            simp only [Act.put, List.setIfInBounds_toArray, List.set_cons_zero, List.set_cons_succ]
            refine wpAnyH_done (by kernel_rfl) ?_ _
            clear HLN HMA hnl hnli hwu hai
            have HSD := hide hS
            clear hS
            go_wp2
            go_roundw
            case rel => exact ⟨k + 1, H2, M2, l2, by omega, by go_num, hide ⟨unhide HSD, unhide HLE⟩⟩
            case measure => simp [intOf]; omega
          · by_cases hk2 : kd = 2
            · subst hk2
              have hbl : bs.length ≤ 1048576 := by have h1 := unhide HWK; have h2 := unhide HWL; omega
              have hai : (a : Int) < 3 := by omega
              have HTX : Hid (∀ u, Hs u (H a) (ll a) → Calls Try.prog 28 #[.pointer (some ⟨H a, 0, none⟩), .string ⟨bs.toArray⟩] u fun e w' => e = .returned (.tuple #[]) ∧ Hs w' (H a) (ll a ++ bs) ∧ U1 u w' (H a)) := by
                refine hide fun u hu => ?_
                have hsz : (⟨bs.toArray⟩ : ByteArray).size = bs.length := by rw [← list_size]
                exact dText (H a) (ll a) ⟨bs.toArray⟩ u hu (by rw [hsz]; have := (unhide HI).2 a ha; have := unhide HWK; have := unhide HWL; omega) (by rw [hsz]; omega)
              go_wp2
              refine wp_region_held (S := fun u => Below w.heap.size w u ∧ u.cell? ⟨bh, a, none⟩ = some (.pointer (some ⟨H a, 0, none⟩))) (by kernel_rfl) ?_
              change wpAnyH _ _ _ _ _ _ _ _ (World.drew _)
              have hS : Below w.heap.size w W3.drew ∧ W3.drew.cell? ⟨bh, a, none⟩ = some (.pointer (some ⟨H a, 0, none⟩)) := ⟨(unhide HI).1.drew.bel, ((unhide HI).1.drew.hcell a ha).1⟩
              refine wpAnyH_take' 0 75 (.int .i64 (a : Int)) rfl rfl (by kernel_rfl) (by kernel_rfl) (by kernel_rfl) (fun _ _ _ h => h) (by rfl) (fun u _ => by go_simp) hS ?_
              simp only [Act.put, List.setIfInBounds_toArray, List.set_cons_zero, List.set_cons_succ]
              refine wpAnyH_take' 1 76 (.pointer (some ⟨bh, a, none⟩)) rfl rfl (by kernel_rfl) (by kernel_rfl) (by kernel_rfl) (fun _ _ _ h => h) (by rfl) (fun u _ => by go_simp) hS ?_
              simp only [Act.put, List.setIfInBounds_toArray, List.set_cons_zero, List.set_cons_succ]
              refine wpAnyH_take' 2 77 (.pointer (some ⟨H a, 0, none⟩)) rfl rfl (by kernel_rfl) (by kernel_rfl) (by kernel_rfl) (fun _ _ _ h => h) (by rfl) (fun u hu => by have hq := hu.2; go_simp) hS ?_
              simp only [Act.put, List.setIfInBounds_toArray, List.set_cons_zero, List.set_cons_succ]
              refine wpAnyH_take' 3 78 (.slice (some ⟨gs, os, none⟩) l.length cap) rfl rfl (by kernel_rfl) (by kernel_rfl) (by kernel_rfl) (fun _ _ _ h => h) (by rfl) (fun u _ => by go_simp) hS ?_
              simp only [Act.put, List.setIfInBounds_toArray, List.set_cons_zero, List.set_cons_succ]
              refine wpAnyH_take' 4 79 (.int .i64 (k : Int)) rfl rfl (by kernel_rfl) (by kernel_rfl) (by kernel_rfl) (fun _ _ _ h => h) (by rfl) (fun u _ => by go_simp) hS ?_
              simp only [Act.put, List.setIfInBounds_toArray, List.set_cons_zero, List.set_cons_succ]
              refine wpAnyH_take' 5 80 (.pointer (some ⟨gs, os + k * 4, none⟩)) rfl rfl (by kernel_rfl) (by kernel_rfl) (by kernel_rfl) (fun _ _ _ h => h) (by rfl) (fun u _ => by go_simp) hS ?_
              simp only [Act.put, List.setIfInBounds_toArray, List.set_cons_zero, List.set_cons_succ]
              refine wpAnyH_take' 6 81 (.pointer (some ⟨gs, os + k * 4 + 3, none⟩)) rfl rfl (by kernel_rfl) (by kernel_rfl) (by kernel_rfl) (fun _ _ _ h => h) (by rfl) (fun u _ => by go_simp) hS ?_
              simp only [Act.put, List.setIfInBounds_toArray, List.set_cons_zero, List.set_cons_succ]
              refine wpAnyH_take' 7 82 (.slice bo bs.length bc) rfl rfl (by kernel_rfl) (by kernel_rfl) (by kernel_rfl) (fun _ _ _ h => h) (by rfl) (fun u hu => by have hq : u.cell? ⟨gs, os + k * 4 + 3, none⟩ = some (.slice bo bs.length bc) := ((unhide HST).below hu.1 hgs).c3; go_simp) hS ?_
              simp only [Act.put, List.setIfInBounds_toArray, List.set_cons_zero, List.set_cons_succ]
              refine wpAnyH_take' 8 83 (.string ⟨bs.toArray⟩) rfl rfl (by kernel_rfl) (by kernel_rfl) (by kernel_rfl) (fun _ _ _ h => h) (by rfl) (fun u hu => by have hq := conv_lies ((unhide HST).below hu.1 hgs).by' bs.length bc rfl; go_simp) hS ?_
              simp only [Act.put, List.setIfInBounds_toArray, List.set_cons_zero, List.set_cons_succ]
              refine wpAnyH_one (i := 9) (by kernel_rfl) rfl (by rfl) fun K hK => ?_
              go_simp
              refine (unhide HTX W3.drew ((unhide HI).1.drew.hs a ha)).mono ?_
              rintro e W5 ⟨rfl, hh5, hu5⟩
              have hst5 := (unhide HI).1.drew.hash a ha hu5 _ hh5
              refine hK _ _ ⟨hst5.bel, (hst5.hcell a ha).1⟩ ?_
              clear hK K hS
              have HST5 := hide hst5
              clear hst5 hh5 hu5 HTX HBY HC3 HC2 hc0 hc1
              refine wpAnyH_done (by kernel_rfl) ?_ _
              obtain ⟨v', WP, hrun, hmr, ⟨xb, hux, hxo⟩, hvo⟩ := ((unhide HST5).drew.ms a ha).put (unhide HST5).drew.bel.size (unhide HST5).drew.bel 24 bo bc bs ((unhide HST).below (unhide HST5).drew.bel hgs).by' (by have := (unhide HI).2 a ha; have := unhide HWK; have := unhide HWL; omega)
              obtain ⟨va, vn, vc, rfl⟩ : ∃ va vn vc, v' = .slice va vn vc := (by obtain ⟨p1, p2, p3, _⟩ := hmr.lies; exact ⟨p1, _, p2, p3⟩)
              obtain ⟨hstn, ⟨oc, hoc⟩, hofz⟩ := (unhide HST5).drew.append a ha (.slice va vn vc) (ll a ++ bs) hmr hux hxo hvo
              have hm1 := ((unhide HST5).drew.mcell a ha).1
              have hs3 : W5.drew.cell? ⟨gs, os + k * 4 + 3, none⟩ = some (.slice bo bs.length bc) := ((unhide HST).below (unhide HST5).drew.bel hgs).c3
              obtain ⟨H2, M2, l2, HSZ, HLE⟩ : ∃ H2 M2 l2, Hid (St3 w (WP.setCell ⟨bm, a, none⟩ (.slice va vn vc)) bh bm H2 M2 l2 l2) ∧ Hid (∀ i, i < 3 → (l2 i).length ≤ wts (l.take (k + 1))) := by
                refine ⟨H, upd M a (.slice va vn vc), upd ll a (ll a ++ bs), hide hstn, hide fun i hi => ?_⟩
                have h1 := (unhide HI).2 i hi
                have h2 := unhide HWK
                by_cases e : i = a
                · subst e; rw [upd_same, List.length_append]; omega
                · rw [upd_other _ _ _ _ e]; omega
              clear hstn hmr hux hxo hvo
              go_wp2
              refine wp_region_any (by kernel_rfl) ?_
              change wpAny _ _ _ _ _ _ _ (World.drew _)
              refine wpAny_take' 0 85 (.int .i64 (a : Int)) rfl rfl (by kernel_rfl) (by kernel_rfl) (by kernel_rfl) (fun _ _ _ h => h) rfl (fun u => by go_simp) ?_
              simp only [Act.put, List.setIfInBounds_toArray, List.set_cons_zero, List.set_cons_succ]
              refine wpAny_take' 1 86 (.int .i64 (a : Int)) rfl rfl (by kernel_rfl) (by kernel_rfl) (by kernel_rfl) (fun _ _ _ h => h) rfl (fun u => by go_simp) ?_
              simp only [Act.put, List.setIfInBounds_toArray, List.set_cons_zero, List.set_cons_succ]
              refine wpAny_take' 2 87 (.pointer (some ⟨bm, a, none⟩)) rfl rfl (by kernel_rfl) (by kernel_rfl) (by kernel_rfl) (fun _ _ _ h => h) rfl (fun u => by go_simp) ?_
              simp only [Act.put, List.setIfInBounds_toArray, List.set_cons_zero, List.set_cons_succ]
              refine wpAny_take' 4 89 (.slice (some ⟨gs, os, none⟩) l.length cap) rfl rfl (by kernel_rfl) (by kernel_rfl) (by kernel_rfl) (fun _ _ _ h => h) rfl (fun u => by go_simp) ?_
              simp only [Act.put, List.setIfInBounds_toArray, List.set_cons_zero, List.set_cons_succ]
              refine wpAny_take' 5 90 (.int .i64 (k : Int)) rfl rfl (by kernel_rfl) (by kernel_rfl) (by kernel_rfl) (fun _ _ _ h => h) rfl (fun u => by go_simp) ?_
              simp only [Act.put, List.setIfInBounds_toArray, List.set_cons_zero, List.set_cons_succ]
              refine wpAny_take' 6 91 (.pointer (some ⟨gs, os + k * 4, none⟩)) rfl rfl (by kernel_rfl) (by kernel_rfl) (by kernel_rfl) (fun _ _ _ h => h) rfl (fun u => by go_simp) ?_
              simp only [Act.put, List.setIfInBounds_toArray, List.set_cons_zero, List.set_cons_succ]
              refine wpAny_take' 7 92 (.pointer (some ⟨gs, os + k * 4 + 3, none⟩)) rfl rfl (by kernel_rfl) (by kernel_rfl) (by kernel_rfl) (fun _ _ _ h => h) rfl (fun u => by go_simp) ?_
              simp only [Act.put, List.setIfInBounds_toArray, List.set_cons_zero, List.set_cons_succ]
              refine wpAny_pair (i := 3) (j := 8) (vi := M a) (vj := .slice bo bs.length bc) (by kernel_rfl) (by kernel_rfl) (by kernel_rfl) (by kernel_rfl) rfl rfl rfl rfl 88 93 (by decide)
                (fun K hK => by go_simp; exact hK) (fun K hK => by go_simp; exact hK) (fun K hK => by go_simp; exact hK) (fun K hK => by go_simp; exact hK) ?_
              simp only [Act.put, List.setIfInBounds_toArray, List.set_cons_zero, List.set_cons_succ]
              refine wpAny_one (i := 9) (by kernel_rfl) rfl rfl fun K hK => wp_append_to _ (.tmp 88) (.tmp 93) 24 24 rfl (some 94) rfl 24 rfl _ _ rfl rfl (.slice va vn vc) WP hrun (hK _ _ ?_)
              clear hK K hrun hm1 hs3
              simp only [Act.put, List.setIfInBounds_toArray, List.set_cons_zero, List.set_cons_succ]
              refine wpAny_take' 10 95 (.pointer (some ⟨bm, a, none⟩)) rfl rfl (by kernel_rfl) (by kernel_rfl) (by kernel_rfl) (fun _ _ _ h => h) rfl (fun u => by go_simp) ?_
              simp only [Act.put, List.setIfInBounds_toArray, List.set_cons_zero, List.set_cons_succ]
              refine wpAny_one (i := 11) (by kernel_rfl) rfl rfl fun K hK => ?_
              go_simp
              refine hK _ _ ?_
              clear hK K hoc hofz
              refine wpAny_done (by kernel_rfl) ?_ _
              generalize WP.setCell ⟨bm, a, none⟩ (.slice va vn vc) = WZ at *
              clear HST5 HI hai
              obtain ⟨am, cm, hMa, _⟩ := ((unhide HSZ).ms a ha).lies
              have HMA := hide hMa
              clear hMa
              have hnl : (l2 a).length ≤ 1048576 := Nat.le_trans (unhide HLE a ha) (unhide HWL)
              have HLN : Hid (∀ u, Hs u (H2 a) (l2 a) → Calls Try.prog 32 #[.pointer (some ⟨H2 a, 0, none⟩)] u fun e w' => e = .returned (.int .u64 ((l2 a).length : Int)) ∧ w' = u) := hide fun u hu => dLen _ _ u hu
              generalize hnle : (l2 a).length = nl at *
              clear hnle
              have hnli : (nl : Int) ≤ 1048576 := by omega
              have hwu : IntKind.u64.wrap (nl : Int) = (nl : Int) := by rw [IntKind.wrap_u64]; omega
              have hai : (a : Int) < 3 := by omega
              go_wp2
              refine wp_region_held (S := fun u => St3 w u bh bm H2 M2 l2 l2) (by kernel_rfl) ?_
              change wpAnyH _ _ _ _ _ _ _ _ (World.drew _)
              have hS := (unhide HSZ).drew
              refine wpAnyH_take' 0 141 (.int .i64 (a : Int)) rfl rfl (by kernel_rfl) (by kernel_rfl) (by kernel_rfl) (fun _ _ _ h => h) (by rfl) (fun u _ => by go_simp) hS ?_
              simp only [Act.put, List.setIfInBounds_toArray, List.set_cons_zero, List.set_cons_succ]
              refine wpAnyH_take' 1 142 (.pointer (some ⟨bh, a, none⟩)) rfl rfl (by kernel_rfl) (by kernel_rfl) (by kernel_rfl) (fun _ _ _ h => h) (by rfl) (fun u _ => by go_simp) hS ?_
              simp only [Act.put, List.setIfInBounds_toArray, List.set_cons_zero, List.set_cons_succ]
              refine wpAnyH_take' 2 143 (.pointer (some ⟨H2 a, 0, none⟩)) rfl rfl (by kernel_rfl) (by kernel_rfl) (by kernel_rfl) (fun _ _ _ h => h) (by rfl) (fun u hu => by have hq := (hu.hcell a ha).1; go_simp) hS ?_
              simp only [Act.put, List.setIfInBounds_toArray, List.set_cons_zero, List.set_cons_succ]
              refine wpAnyH_take' 4 145 (.int .i64 (a : Int)) rfl rfl (by kernel_rfl) (by kernel_rfl) (by kernel_rfl) (fun _ _ _ h => h) (by rfl) (fun u _ => by go_simp) hS ?_
              simp only [Act.put, List.setIfInBounds_toArray, List.set_cons_zero, List.set_cons_succ]
              refine wpAnyH_take' 5 146 (.pointer (some ⟨bm, a, none⟩)) rfl rfl (by kernel_rfl) (by kernel_rfl) (by kernel_rfl) (fun _ _ _ h => h) (by rfl) (fun u _ => by go_simp) hS ?_
              simp only [Act.put, List.setIfInBounds_toArray, List.set_cons_zero, List.set_cons_succ]
              refine wpAnyH_take' 6 147 (.slice am nl cm) rfl rfl (by kernel_rfl) (by kernel_rfl) (by kernel_rfl) (fun _ _ _ h => h) (by rfl) (fun u hu => by have hq := (hu.mcell a ha).1; rw [unhide HMA] at hq; go_simp) hS ?_
              simp only [Act.put, List.setIfInBounds_toArray, List.set_cons_zero, List.set_cons_succ]
              refine wpAnyH_take' 7 148 (.int .i64 (nl : Int)) rfl rfl (by kernel_rfl) (by kernel_rfl) (by kernel_rfl) (fun _ _ _ h => h) (by rfl) (fun u _ => by go_simp) hS ?_
              simp only [Act.put, List.setIfInBounds_toArray, List.set_cons_zero, List.set_cons_succ]
              refine wpAnyH_take' 8 149 (.int .u64 (nl : Int)) rfl rfl (by kernel_rfl) (by kernel_rfl) (by kernel_rfl) (fun _ _ _ h => h) (by rfl) (fun u _ => by go_simp) hS ?_
              simp only [Act.put, List.setIfInBounds_toArray, List.set_cons_zero, List.set_cons_succ]
              refine wpAnyH_one (i := 3) (by kernel_rfl) rfl (by rfl) fun K hK => ?_
              go_simp
              refine (unhide HLN _ (hS.hs a ha)).mono ?_
              rintro e WL ⟨rfl, rfl⟩
              refine hK _ _ hS ?_
              clear hK K
              refine wpAnyH_take' 9 150 (.bool false) rfl rfl (by kernel_rfl) (by kernel_rfl) (by kernel_rfl) (fun _ _ _ h => h) (by rfl) (fun u _ => by go_simp) hS ?_
              simp only [Act.put, List.setIfInBounds_toArray, List.set_cons_zero, List.set_cons_succ]
              refine wpAnyH_done (by kernel_rfl) ?_ _
              clear HLN HMA hnl hnli hwu hai
              have HSD := hide hS
              clear hS
              go_wp2
              go_roundw
              case rel => exact ⟨k + 1, H2, M2, l2, by omega, by go_num, hide ⟨unhide HSD, unhide HLE⟩⟩
              case measure => simp [intOf]; omega
            · by_cases hk3 : kd = 3
              · subst hk3
                have hai : (a : Int) < 3 := by omega
                obtain ⟨am, cm, hMa, _⟩ := ((unhide HI).1.ms a ha).lies
                have HMA := hide hMa
                clear hMa
                have hnl : (ll a).length ≤ 1048576 := by have := (unhide HI).2 a ha; have := unhide HWK; have := unhide HWL; omega
                have HSU : Hid (∀ u, Hs u (H a) (ll a) → Calls Try.prog 29 #[.pointer (some ⟨H a, 0, none⟩)] u fun e w' => e = .returned (.agg (ofCells (ll a))) ∧ Below u.heap.size u w') := hide fun u hu => dSum _ _ u hu (by omega)
                have HOF : Hid (∀ u, Calls Try.prog 24 #[.string ⟨(ll a).toArray⟩] u fun e w' => e = .returned (.agg (ofCells (ll a))) ∧ Below u.heap.size u w') := hide fun u => mOf ⟨(ll a).toArray⟩ (by rw [← list_size]; show (ll a).length ≤ _; omega) u
                have HCV : Hid (∀ u, St3 w u bh bm H M ll ll → (convert 24 9 (.slice am (ll a).length cm)).run Try.prog u = .ok (.string ⟨(ll a).toArray⟩) u) := by
                  refine hide fun u hu => ?_
                  obtain ⟨am', cm', e, hlie⟩ := (hu.ms a ha).lies
                  rw [unhide HMA] at e
                  cases e
                  exact conv_lies hlie _ _ rfl
                have heq := eqSum (ofCells (ll a)) (fun j hj => ⟨.u8, _, by rw [ofCells, List.getElem?_toArray, byteCells_at _ j (by rw [Sha.of_length]; exact hj)]⟩)
                obtain ⟨H2, M2, l2, HSZ0, HLE, HQ⟩ : ∃ H2 M2 l2, Hid (St3 w W3 bh bm H2 M2 l2 l2) ∧ Hid (∀ i, i < 3 → (l2 i).length ≤ wts (l.take (k + 1))) ∧ Hid (H2 = H ∧ M2 = M ∧ l2 = ll) := ⟨H, M, ll, hide (unhide HI).1, hide fun i hi => by have := (unhide HI).2 i hi; have := unhide HWK; omega, hide ⟨rfl, rfl, rfl⟩⟩
                generalize ofCells (ll a) = OC at *
                generalize hnle : (ll a).length = nl at *
                clear hnle HBY HC3 HC2 hc1
                generalize (⟨(ll a).toArray⟩ : ByteArray) = SS at *
                go_wp2
                refine wp_region_held (S := fun u => St3 w u bh bm H M ll ll) (by kernel_rfl) ?_
                change wpAnyH _ _ _ _ _ _ _ _ (World.drew _)
                have hS := (unhide HI).1.drew
                refine wpAnyH_take' 0 98 (.int .i64 (a : Int)) rfl rfl (by kernel_rfl) (by kernel_rfl) (by kernel_rfl) (fun _ _ _ h => h) (by rfl) (fun u _ => by go_simp) hS ?_
                simp only [Act.put, List.setIfInBounds_toArray, List.set_cons_zero, List.set_cons_succ]
                refine wpAnyH_take' 1 99 (.pointer (some ⟨bh, a, none⟩)) rfl rfl (by kernel_rfl) (by kernel_rfl) (by kernel_rfl) (fun _ _ _ h => h) (by rfl) (fun u _ => by go_simp) hS ?_
                simp only [Act.put, List.setIfInBounds_toArray, List.set_cons_zero, List.set_cons_succ]
                refine wpAnyH_take' 2 100 (.pointer (some ⟨H a, 0, none⟩)) rfl rfl (by kernel_rfl) (by kernel_rfl) (by kernel_rfl) (fun _ _ _ h => h) (by rfl) (fun u hu => by have hq := (hu.hcell a ha).1; go_simp) hS ?_
                simp only [Act.put, List.setIfInBounds_toArray, List.set_cons_zero, List.set_cons_succ]
                refine wpAnyH_take' 4 102 (.int .i64 (a : Int)) rfl rfl (by kernel_rfl) (by kernel_rfl) (by kernel_rfl) (fun _ _ _ h => h) (by rfl) (fun u _ => by go_simp) hS ?_
                simp only [Act.put, List.setIfInBounds_toArray, List.set_cons_zero, List.set_cons_succ]
                refine wpAnyH_take' 5 103 (.pointer (some ⟨bm, a, none⟩)) rfl rfl (by kernel_rfl) (by kernel_rfl) (by kernel_rfl) (fun _ _ _ h => h) (by rfl) (fun u _ => by go_simp) hS ?_
                simp only [Act.put, List.setIfInBounds_toArray, List.set_cons_zero, List.set_cons_succ]
                refine wpAnyH_take' 6 104 (.slice am nl cm) rfl rfl (by kernel_rfl) (by kernel_rfl) (by kernel_rfl) (fun _ _ _ h => h) (by rfl) (fun u hu => by have hq := (hu.mcell a ha).1; rw [unhide HMA] at hq; go_simp) hS ?_
                simp only [Act.put, List.setIfInBounds_toArray, List.set_cons_zero, List.set_cons_succ]
                refine wpAnyH_take' 7 105 (.string SS) rfl rfl (by kernel_rfl) (by kernel_rfl) (by kernel_rfl) (fun _ _ _ h => h) (by rfl) (fun u hu => by have hq := unhide HCV u hu; go_simp) hS ?_
                simp only [Act.put, List.setIfInBounds_toArray, List.set_cons_zero, List.set_cons_succ]
                refine wpAnyH_one (i := 3) (by kernel_rfl) rfl (by rfl) fun K hK => ?_
                go_simp
                refine (unhide HSU _ (hS.hs a ha)).mono ?_
                rintro e W5 ⟨rfl, hb5⟩
                have hS5 := hS.below hb5
                refine hK _ _ hS5 ?_
                clear hK K hS hb5
                refine wpAnyH_one (i := 8) (by kernel_rfl) rfl (by rfl) fun K hK => ?_
                go_simp
                refine (unhide HOF _).mono ?_
                rintro e W6 ⟨rfl, hb6⟩
                have hS := hS5.below hb6
                refine hK _ _ hS ?_
                clear hK K hS5 hb6
                refine wpAnyH_take' 9 107 (.bool false) rfl rfl (by kernel_rfl) (by kernel_rfl) (by kernel_rfl) (fun _ _ _ h => h) (by rfl) (fun u _ => by go_simp) hS ?_
                simp only [Act.put, List.setIfInBounds_toArray, List.set_cons_zero, List.set_cons_succ]
                refine wpAnyH_done (by kernel_rfl) ?_ _
                have HSZ : Hid (St3 w W6 bh bm H2 M2 l2 l2) := by obtain ⟨e1, e2, e3⟩ := unhide HQ; rw [e1, e2, e3]; exact hide hS
                clear hS heq HSU HOF HCV HMA HSZ0 HQ HI hai hc0
                obtain ⟨am, cm, hMa, _⟩ := ((unhide HSZ).ms a ha).lies
                have HMA := hide hMa
                clear hMa
                have hnl : (l2 a).length ≤ 1048576 := Nat.le_trans (unhide HLE a ha) (unhide HWL)
                have HLN : Hid (∀ u, Hs u (H2 a) (l2 a) → Calls Try.prog 32 #[.pointer (some ⟨H2 a, 0, none⟩)] u fun e w' => e = .returned (.int .u64 ((l2 a).length : Int)) ∧ w' = u) := hide fun u hu => dLen _ _ u hu
                generalize hnle : (l2 a).length = nl at *
                clear hnle
                have hnli : (nl : Int) ≤ 1048576 := by omega
                have hwu : IntKind.u64.wrap (nl : Int) = (nl : Int) := by rw [IntKind.wrap_u64]; omega
                have hai : (a : Int) < 3 := by omega
                go_wp2
                refine wp_region_held (S := fun u => St3 w u bh bm H2 M2 l2 l2) (by kernel_rfl) ?_
                change wpAnyH _ _ _ _ _ _ _ _ (World.drew _)
                have hS := (unhide HSZ).drew
                refine wpAnyH_take' 0 141 (.int .i64 (a : Int)) rfl rfl (by kernel_rfl) (by kernel_rfl) (by kernel_rfl) (fun _ _ _ h => h) (by rfl) (fun u _ => by go_simp) hS ?_
                simp only [Act.put, List.setIfInBounds_toArray, List.set_cons_zero, List.set_cons_succ]
                refine wpAnyH_take' 1 142 (.pointer (some ⟨bh, a, none⟩)) rfl rfl (by kernel_rfl) (by kernel_rfl) (by kernel_rfl) (fun _ _ _ h => h) (by rfl) (fun u _ => by go_simp) hS ?_
                simp only [Act.put, List.setIfInBounds_toArray, List.set_cons_zero, List.set_cons_succ]
                refine wpAnyH_take' 2 143 (.pointer (some ⟨H2 a, 0, none⟩)) rfl rfl (by kernel_rfl) (by kernel_rfl) (by kernel_rfl) (fun _ _ _ h => h) (by rfl) (fun u hu => by have hq := (hu.hcell a ha).1; go_simp) hS ?_
                simp only [Act.put, List.setIfInBounds_toArray, List.set_cons_zero, List.set_cons_succ]
                refine wpAnyH_take' 4 145 (.int .i64 (a : Int)) rfl rfl (by kernel_rfl) (by kernel_rfl) (by kernel_rfl) (fun _ _ _ h => h) (by rfl) (fun u _ => by go_simp) hS ?_
                simp only [Act.put, List.setIfInBounds_toArray, List.set_cons_zero, List.set_cons_succ]
                refine wpAnyH_take' 5 146 (.pointer (some ⟨bm, a, none⟩)) rfl rfl (by kernel_rfl) (by kernel_rfl) (by kernel_rfl) (fun _ _ _ h => h) (by rfl) (fun u _ => by go_simp) hS ?_
                simp only [Act.put, List.setIfInBounds_toArray, List.set_cons_zero, List.set_cons_succ]
                refine wpAnyH_take' 6 147 (.slice am nl cm) rfl rfl (by kernel_rfl) (by kernel_rfl) (by kernel_rfl) (fun _ _ _ h => h) (by rfl) (fun u hu => by have hq := (hu.mcell a ha).1; rw [unhide HMA] at hq; go_simp) hS ?_
                simp only [Act.put, List.setIfInBounds_toArray, List.set_cons_zero, List.set_cons_succ]
                refine wpAnyH_take' 7 148 (.int .i64 (nl : Int)) rfl rfl (by kernel_rfl) (by kernel_rfl) (by kernel_rfl) (fun _ _ _ h => h) (by rfl) (fun u _ => by go_simp) hS ?_
                simp only [Act.put, List.setIfInBounds_toArray, List.set_cons_zero, List.set_cons_succ]
                refine wpAnyH_take' 8 149 (.int .u64 (nl : Int)) rfl rfl (by kernel_rfl) (by kernel_rfl) (by kernel_rfl) (fun _ _ _ h => h) (by rfl) (fun u _ => by go_simp) hS ?_
                simp only [Act.put, List.setIfInBounds_toArray, List.set_cons_zero, List.set_cons_succ]
                refine wpAnyH_one (i := 3) (by kernel_rfl) rfl (by rfl) fun K hK => ?_
                go_simp
                refine (unhide HLN _ (hS.hs a ha)).mono ?_
                rintro e WL ⟨rfl, rfl⟩
                refine hK _ _ hS ?_
                clear hK K
                refine wpAnyH_take' 9 150 (.bool false) rfl rfl (by kernel_rfl) (by kernel_rfl) (by kernel_rfl) (fun _ _ _ h => h) (by rfl) (fun u _ => by go_simp) hS ?_
                simp only [Act.put, List.setIfInBounds_toArray, List.set_cons_zero, List.set_cons_succ]
                refine wpAnyH_done (by kernel_rfl) ?_ _
                clear HLN HMA hnl hnli hwu hai
                have HSD := hide hS
                clear hS
                go_wp2
                go_roundw
                case rel => exact ⟨k + 1, H2, M2, l2, by omega, by go_num, hide ⟨unhide HSD, unhide HLE⟩⟩
                case measure => simp [intOf]; omega
              · by_cases hk4 : kd = 4
                · subst hk4
                  have hai : (a : Int) < 3 := by omega
                  have hc2 := unhide HC2
                  go_wp2_with fail
                  refine (lThree _ _).mono ?_
                  rintro e W4 ⟨b, hb, rfl, rfl⟩
                  have hbi : (b : Int) < 3 := by omega
                  have hh1 := ((unhide HI).1.hcell a ha).1
                  have HCP := hide (dCopy (H a) (ll a) W4 ((unhide HI).1.hs a ha))
                  clear hc2 HBY HC3 HC2 hc0 hc1
                  go_wp2_with fail
                  refine (unhide HCP).mono ?_
                  rintro e W5 ⟨y, rfl, hyge, hys, hb5⟩
                  have hst5 := (unhide HI).1.below hb5
                  have hst6 := hst5.place b y hb (ll a) hys (Nat.le_trans (unhide HI).1.bel.size hyge) (by have := (unhide HI).1.bhlt; omega) (by have := (unhide HI).1.bmlt; omega) (fun i hi => by have := ((unhide HI).1.hs i hi).lt; omega) (fun i hi e => by have := ((unhide HI).1.ms i hi).lt e; omega)
                  obtain ⟨hcb, hfb⟩ := hst5.hcell b hb
                  have HST6 := hide hst6
                  clear hh1 HCP hyge hys hb5 hst5 hst6
                  obtain ⟨am, cm, hMa, hlie⟩ := ((unhide HST6).ms a ha).lies
                  obtain ⟨g2, c2, W7, hrun, hbr7, _, _⟩ := (BR.nothing (W5.setCell ⟨bh, b, none⟩ (.pointer (some ⟨y, 0, none⟩)))).put 24 am cm (ll a).length (ll a) rfl (hlie.below ((Below.refl _ _).alloc (Nat.le_refl _) _)) (by have := (unhide HI).2 a ha; have := unhide HWK; have := unhide HWL; simp; omega)
                  simp only [List.length_nil, Nat.zero_add, List.nil_append] at hrun hbr7
                  have hst7 := (unhide HST6).below hbr7.bel
                  have hmr7 : MR w W7 (.slice (some ⟨g2, 0, none⟩) (ll a).length c2) (ll a) := .inr ⟨g2, c2, rfl, hbr7.base (unhide HST6).bel.size hst7.bel⟩
                  have hst8 := hst7.row b hb _ (ll a) hmr7 (fun g hg => by
                    obtain rfl : g2 = g := Option.some.inj hg
                    have hge := hbr7.ge
                    have k6 := unhide HST6
                    exact ⟨by have := k6.bhlt; omega, by have := k6.bmlt; omega, fun j hj => by have := (k6.hs j hj).lt; omega, fun j hj _ e => by have := (k6.ms j hj).lt e; omega⟩)
                  have hma : (W5.setCell ⟨bh, b, none⟩ (.pointer (some ⟨y, 0, none⟩))).cell? ⟨bm, a, none⟩ = some (.slice am (ll a).length cm) := by rw [((unhide HST6).mcell a ha).1, hMa]
                  have hma2 : ((W5.setCell ⟨bh, b, none⟩ (.pointer (some ⟨y, 0, none⟩))).alloc (.cells #[] 5)).cell? ⟨bm, a, none⟩ = some (.slice am (ll a).length cm) := by rw [World.cell?_alloc_lt _ _ _ (by exact (unhide HST6).bmlt)]; exact hma
                  have hnb : ((W5.setCell ⟨bh, b, none⟩ (.pointer (some ⟨y, 0, none⟩))).cell? ⟨bh, b, none⟩) = some (.pointer (some ⟨y, 0, none⟩)) := by have := ((unhide HST6).hcell b hb).1; rwa [upd_same] at this
                  obtain ⟨hmb, hfmb⟩ := hst7.mcell b hb
                  generalize M b = mvb at *
                  obtain ⟨H2, M2, l2, HSZ, HLE⟩ : ∃ H2 M2 l2, Hid (St3 w (W7.setCell ⟨bm, b, none⟩ (.slice (some ⟨g2, 0, none⟩) (ll a).length c2)) bh bm H2 M2 l2 l2) ∧ Hid (∀ i, i < 3 → (l2 i).length ≤ wts (l.take (k + 1))) := by
                    refine ⟨upd H b y, upd M b _, upd ll b (ll a), hide hst8, hide fun i hi => ?_⟩
                    have h1 := (unhide HI).2 i hi
                    have h1' := (unhide HI).2 a ha
                    have h2 := unhide HWK
                    by_cases e : i = b
                    · subst e; rw [upd_same]; omega
                    · rw [upd_other _ _ _ _ e]; omega
                  clear hst7 hst8 hmr7 hbr7 hlie hMa HST6 hma
                  have hll : (ll a).length ≤ 1048576 := by have := (unhide HI).2 a ha; have := unhide HWK; have := unhide HWL; omega
                  generalize (ll a).length = nla at *
                  have hsz5 : (W5.setCell ⟨bh, b, none⟩ (.pointer (some ⟨y, 0, none⟩))).heap.size = W5.heap.size := by simp [World.setCell]
                  rw [hsz5] at hrun
                  clear hsz5
                  go_wp2_with (at_builtin; refine Lib.wpList_append_run _ rfl (.tmp 127) (.tmp 130) 24 24 rfl _ _ rfl rfl _ _ hrun ?_)
                  clear hai hbi hrun hma2 hnb hcb hfb hmb hfmb HI hll
                  obtain ⟨am, cm, hMa, _⟩ := ((unhide HSZ).ms a ha).lies
                  have HMA := hide hMa
                  clear hMa
                  have hnl : (l2 a).length ≤ 1048576 := Nat.le_trans (unhide HLE a ha) (unhide HWL)
                  have HLN : Hid (∀ u, Hs u (H2 a) (l2 a) → Calls Try.prog 32 #[.pointer (some ⟨H2 a, 0, none⟩)] u fun e w' => e = .returned (.int .u64 ((l2 a).length : Int)) ∧ w' = u) := hide fun u hu => dLen _ _ u hu
                  generalize hnle : (l2 a).length = nl at *
                  clear hnle
                  have hnli : (nl : Int) ≤ 1048576 := by omega
                  have hwu : IntKind.u64.wrap (nl : Int) = (nl : Int) := by rw [IntKind.wrap_u64]; omega
                  have hai : (a : Int) < 3 := by omega
                  (try go_wp2)
                  refine wp_region_held (S := fun u => St3 w u bh bm H2 M2 l2 l2) (by kernel_rfl) ?_
                  change wpAnyH _ _ _ _ _ _ _ _ (World.drew _)
                  have hS := (unhide HSZ).drew
                  refine wpAnyH_take' 0 141 (.int .i64 (a : Int)) rfl rfl (by kernel_rfl) (by kernel_rfl) (by kernel_rfl) (fun _ _ _ h => h) (by rfl) (fun u _ => by go_simp) hS ?_
                  simp only [Act.put, List.setIfInBounds_toArray, List.set_cons_zero, List.set_cons_succ]
                  refine wpAnyH_take' 1 142 (.pointer (some ⟨bh, a, none⟩)) rfl rfl (by kernel_rfl) (by kernel_rfl) (by kernel_rfl) (fun _ _ _ h => h) (by rfl) (fun u _ => by go_simp) hS ?_
                  simp only [Act.put, List.setIfInBounds_toArray, List.set_cons_zero, List.set_cons_succ]
                  refine wpAnyH_take' 2 143 (.pointer (some ⟨H2 a, 0, none⟩)) rfl rfl (by kernel_rfl) (by kernel_rfl) (by kernel_rfl) (fun _ _ _ h => h) (by rfl) (fun u hu => by have hq := (hu.hcell a ha).1; go_simp) hS ?_
                  simp only [Act.put, List.setIfInBounds_toArray, List.set_cons_zero, List.set_cons_succ]
                  refine wpAnyH_take' 4 145 (.int .i64 (a : Int)) rfl rfl (by kernel_rfl) (by kernel_rfl) (by kernel_rfl) (fun _ _ _ h => h) (by rfl) (fun u _ => by go_simp) hS ?_
                  simp only [Act.put, List.setIfInBounds_toArray, List.set_cons_zero, List.set_cons_succ]
                  refine wpAnyH_take' 5 146 (.pointer (some ⟨bm, a, none⟩)) rfl rfl (by kernel_rfl) (by kernel_rfl) (by kernel_rfl) (fun _ _ _ h => h) (by rfl) (fun u _ => by go_simp) hS ?_
                  simp only [Act.put, List.setIfInBounds_toArray, List.set_cons_zero, List.set_cons_succ]
                  refine wpAnyH_take' 6 147 (.slice am nl cm) rfl rfl (by kernel_rfl) (by kernel_rfl) (by kernel_rfl) (fun _ _ _ h => h) (by rfl) (fun u hu => by have hq := (hu.mcell a ha).1; rw [unhide HMA] at hq; go_simp) hS ?_
                  simp only [Act.put, List.setIfInBounds_toArray, List.set_cons_zero, List.set_cons_succ]
                  refine wpAnyH_take' 7 148 (.int .i64 (nl : Int)) rfl rfl (by kernel_rfl) (by kernel_rfl) (by kernel_rfl) (fun _ _ _ h => h) (by rfl) (fun u _ => by go_simp) hS ?_
                  simp only [Act.put, List.setIfInBounds_toArray, List.set_cons_zero, List.set_cons_succ]
                  refine wpAnyH_take' 8 149 (.int .u64 (nl : Int)) rfl rfl (by kernel_rfl) (by kernel_rfl) (by kernel_rfl) (fun _ _ _ h => h) (by rfl) (fun u _ => by go_simp) hS ?_
                  simp only [Act.put, List.setIfInBounds_toArray, List.set_cons_zero, List.set_cons_succ]
                  refine wpAnyH_one (i := 3) (by kernel_rfl) rfl (by rfl) fun K hK => ?_
                  go_simp
                  refine (unhide HLN _ (hS.hs a ha)).mono ?_
                  rintro e WL ⟨rfl, rfl⟩
                  refine hK _ _ hS ?_
                  clear hK K
                  refine wpAnyH_take' 9 150 (.bool false) rfl rfl (by kernel_rfl) (by kernel_rfl) (by kernel_rfl) (fun _ _ _ h => h) (by rfl) (fun u _ => by go_simp) hS ?_
                  simp only [Act.put, List.setIfInBounds_toArray, List.set_cons_zero, List.set_cons_succ]
                  refine wpAnyH_done (by kernel_rfl) ?_ _
                  clear HLN HMA hnl hnli hwu hai
                  have HSD := hide hS
                  clear hS
                  go_wp2
                  go_roundw
                  case rel => exact ⟨k + 1, H2, M2, l2, by omega, by go_num, hide ⟨unhide HSD, unhide HLE⟩⟩
                  case measure => simp [intOf]; omega
                · by_cases hk5 : kd = 5
                  · subst hk5
                    have hai : (a : Int) < 3 := by omega
                    have hh1 := ((unhide HI).1.hcell a ha).1
                    have HRE := hide (dReset (H a) (ll a) W3 ((unhide HI).1.hs a ha))
                    clear HBY HC3 HC2 hc1
                    go_wp2_with fail
                    refine (unhide HRE).mono ?_
                    rintro e W5 ⟨rfl, hh5, hu5⟩
                    have hst5 := (unhide HI).1.hash a ha hu5 _ hh5
                    have hst6 := hst5.row a ha (.slice none 0 0) [] (.inl ⟨rfl, rfl⟩) (fun g hg => by cases hg)
                    obtain ⟨hmb, hfmb⟩ := hst5.mcell a ha
                    generalize M a = mva at *
                    obtain ⟨H2, M2, l2, HSZ, HLE⟩ : ∃ H2 M2 l2, Hid (St3 w (W5.setCell ⟨bm, a, none⟩ (.slice none 0 0)) bh bm H2 M2 l2 l2) ∧ Hid (∀ i, i < 3 → (l2 i).length ≤ wts (l.take (k + 1))) := by
                      refine ⟨H, upd M a _, upd ll a [], hide hst6, hide fun i hi => ?_⟩
                      have h1 := (unhide HI).2 i hi
                      have h2 := unhide HWK
                      by_cases e : i = a
                      · subst e; rw [upd_same]; simp
                      · rw [upd_other _ _ _ _ e]; omega
                    clear hst5 hst6 hh5 hu5 HRE hh1 HI hc0
                    clear hai
                    obtain ⟨am, cm, hMa, _⟩ := ((unhide HSZ).ms a ha).lies
                    have HMA := hide hMa
                    clear hMa
                    have hnl : (l2 a).length ≤ 1048576 := Nat.le_trans (unhide HLE a ha) (unhide HWL)
                    have HLN : Hid (∀ u, Hs u (H2 a) (l2 a) → Calls Try.prog 32 #[.pointer (some ⟨H2 a, 0, none⟩)] u fun e w' => e = .returned (.int .u64 ((l2 a).length : Int)) ∧ w' = u) := hide fun u hu => dLen _ _ u hu
                    generalize hnle : (l2 a).length = nl at *
                    clear hnle
                    have hnli : (nl : Int) ≤ 1048576 := by omega
                    have hwu : IntKind.u64.wrap (nl : Int) = (nl : Int) := by rw [IntKind.wrap_u64]; omega
                    have hai : (a : Int) < 3 := by omega
                    go_wp2
                    refine wp_region_held (S := fun u => St3 w u bh bm H2 M2 l2 l2) (by kernel_rfl) ?_
                    change wpAnyH _ _ _ _ _ _ _ _ (World.drew _)
                    have hS := (unhide HSZ).drew
                    refine wpAnyH_take' 0 141 (.int .i64 (a : Int)) rfl rfl (by kernel_rfl) (by kernel_rfl) (by kernel_rfl) (fun _ _ _ h => h) (by rfl) (fun u _ => by go_simp) hS ?_
                    simp only [Act.put, List.setIfInBounds_toArray, List.set_cons_zero, List.set_cons_succ]
                    refine wpAnyH_take' 1 142 (.pointer (some ⟨bh, a, none⟩)) rfl rfl (by kernel_rfl) (by kernel_rfl) (by kernel_rfl) (fun _ _ _ h => h) (by rfl) (fun u _ => by go_simp) hS ?_
                    simp only [Act.put, List.setIfInBounds_toArray, List.set_cons_zero, List.set_cons_succ]
                    refine wpAnyH_take' 2 143 (.pointer (some ⟨H2 a, 0, none⟩)) rfl rfl (by kernel_rfl) (by kernel_rfl) (by kernel_rfl) (fun _ _ _ h => h) (by rfl) (fun u hu => by have hq := (hu.hcell a ha).1; go_simp) hS ?_
                    simp only [Act.put, List.setIfInBounds_toArray, List.set_cons_zero, List.set_cons_succ]
                    refine wpAnyH_take' 4 145 (.int .i64 (a : Int)) rfl rfl (by kernel_rfl) (by kernel_rfl) (by kernel_rfl) (fun _ _ _ h => h) (by rfl) (fun u _ => by go_simp) hS ?_
                    simp only [Act.put, List.setIfInBounds_toArray, List.set_cons_zero, List.set_cons_succ]
                    refine wpAnyH_take' 5 146 (.pointer (some ⟨bm, a, none⟩)) rfl rfl (by kernel_rfl) (by kernel_rfl) (by kernel_rfl) (fun _ _ _ h => h) (by rfl) (fun u _ => by go_simp) hS ?_
                    simp only [Act.put, List.setIfInBounds_toArray, List.set_cons_zero, List.set_cons_succ]
                    refine wpAnyH_take' 6 147 (.slice am nl cm) rfl rfl (by kernel_rfl) (by kernel_rfl) (by kernel_rfl) (fun _ _ _ h => h) (by rfl) (fun u hu => by have hq := (hu.mcell a ha).1; rw [unhide HMA] at hq; go_simp) hS ?_
                    simp only [Act.put, List.setIfInBounds_toArray, List.set_cons_zero, List.set_cons_succ]
                    refine wpAnyH_take' 7 148 (.int .i64 (nl : Int)) rfl rfl (by kernel_rfl) (by kernel_rfl) (by kernel_rfl) (fun _ _ _ h => h) (by rfl) (fun u _ => by go_simp) hS ?_
                    simp only [Act.put, List.setIfInBounds_toArray, List.set_cons_zero, List.set_cons_succ]
                    refine wpAnyH_take' 8 149 (.int .u64 (nl : Int)) rfl rfl (by kernel_rfl) (by kernel_rfl) (by kernel_rfl) (fun _ _ _ h => h) (by rfl) (fun u _ => by go_simp) hS ?_
                    simp only [Act.put, List.setIfInBounds_toArray, List.set_cons_zero, List.set_cons_succ]
                    refine wpAnyH_one (i := 3) (by kernel_rfl) rfl (by rfl) fun K hK => ?_
                    go_simp
                    refine (unhide HLN _ (hS.hs a ha)).mono ?_
                    rintro e WL ⟨rfl, rfl⟩
                    refine hK _ _ hS ?_
                    clear hK K
                    refine wpAnyH_take' 9 150 (.bool false) rfl rfl (by kernel_rfl) (by kernel_rfl) (by kernel_rfl) (fun _ _ _ h => h) (by rfl) (fun u _ => by go_simp) hS ?_
                    simp only [Act.put, List.setIfInBounds_toArray, List.set_cons_zero, List.set_cons_succ]
                    refine wpAnyH_done (by kernel_rfl) ?_ _
                    clear HLN HMA hnl hnli hwu hai
                    have HSD := hide hS
                    clear hS
                    go_wp2
                    go_roundw
                    case rel => exact ⟨k + 1, H2, M2, l2, by omega, by go_num, hide ⟨unhide HSD, unhide HLE⟩⟩
                    case measure => simp [intOf]; omega
                  · have n1 : (kd == 1) = false := by simpa using hk1
                    have n2 : (kd == 2) = false := by simpa using hk2
                    have n3 : (kd == 3) = false := by simpa using hk3
                    have n4 : (kd == 4) = false := by simpa using hk4
                    have n5 : (kd == 5) = false := by simpa using hk5
                    obtain ⟨H2, M2, l2, HSZ, HLE⟩ : ∃ H2 M2 l2, Hid (St3 w W3 bh bm H2 M2 l2 l2) ∧ Hid (∀ i, i < 3 → (l2 i).length ≤ wts (l.take (k + 1))) := ⟨H, M, ll, hide (unhide HI).1, hide fun i hi => by have := (unhide HI).2 i hi; have := unhide HWK; omega⟩
                    clear HI
                    obtain ⟨am, cm, hMa, _⟩ := ((unhide HSZ).ms a ha).lies
                    have HMA := hide hMa
                    clear hMa
                    have hnl : (l2 a).length ≤ 1048576 := Nat.le_trans (unhide HLE a ha) (unhide HWL)
                    have HLN : Hid (∀ u, Hs u (H2 a) (l2 a) → Calls Try.prog 32 #[.pointer (some ⟨H2 a, 0, none⟩)] u fun e w' => e = .returned (.int .u64 ((l2 a).length : Int)) ∧ w' = u) := hide fun u hu => dLen _ _ u hu
                    generalize hnle : (l2 a).length = nl at *
                    clear hnle
                    have hnli : (nl : Int) ≤ 1048576 := by omega
                    have hwu : IntKind.u64.wrap (nl : Int) = (nl : Int) := by rw [IntKind.wrap_u64]; omega
                    have hai : (a : Int) < 3 := by omega
                    go_wp2
                    refine wp_region_held (S := fun u => St3 w u bh bm H2 M2 l2 l2) (by kernel_rfl) ?_
                    change wpAnyH _ _ _ _ _ _ _ _ (World.drew _)
                    have hS := (unhide HSZ).drew
                    refine wpAnyH_take' 0 141 (.int .i64 (a : Int)) rfl rfl (by kernel_rfl) (by kernel_rfl) (by kernel_rfl) (fun _ _ _ h => h) (by rfl) (fun u _ => by go_simp) hS ?_
                    simp only [Act.put, List.setIfInBounds_toArray, List.set_cons_zero, List.set_cons_succ]
                    refine wpAnyH_take' 1 142 (.pointer (some ⟨bh, a, none⟩)) rfl rfl (by kernel_rfl) (by kernel_rfl) (by kernel_rfl) (fun _ _ _ h => h) (by rfl) (fun u _ => by go_simp) hS ?_
                    simp only [Act.put, List.setIfInBounds_toArray, List.set_cons_zero, List.set_cons_succ]
                    refine wpAnyH_take' 2 143 (.pointer (some ⟨H2 a, 0, none⟩)) rfl rfl (by kernel_rfl) (by kernel_rfl) (by kernel_rfl) (fun _ _ _ h => h) (by rfl) (fun u hu => by have hq := (hu.hcell a ha).1; go_simp) hS ?_
                    simp only [Act.put, List.setIfInBounds_toArray, List.set_cons_zero, List.set_cons_succ]
                    refine wpAnyH_take' 4 145 (.int .i64 (a : Int)) rfl rfl (by kernel_rfl) (by kernel_rfl) (by kernel_rfl) (fun _ _ _ h => h) (by rfl) (fun u _ => by go_simp) hS ?_
                    simp only [Act.put, List.setIfInBounds_toArray, List.set_cons_zero, List.set_cons_succ]
                    refine wpAnyH_take' 5 146 (.pointer (some ⟨bm, a, none⟩)) rfl rfl (by kernel_rfl) (by kernel_rfl) (by kernel_rfl) (fun _ _ _ h => h) (by rfl) (fun u _ => by go_simp) hS ?_
                    simp only [Act.put, List.setIfInBounds_toArray, List.set_cons_zero, List.set_cons_succ]
                    refine wpAnyH_take' 6 147 (.slice am nl cm) rfl rfl (by kernel_rfl) (by kernel_rfl) (by kernel_rfl) (fun _ _ _ h => h) (by rfl) (fun u hu => by have hq := (hu.mcell a ha).1; rw [unhide HMA] at hq; go_simp) hS ?_
                    simp only [Act.put, List.setIfInBounds_toArray, List.set_cons_zero, List.set_cons_succ]
                    refine wpAnyH_take' 7 148 (.int .i64 (nl : Int)) rfl rfl (by kernel_rfl) (by kernel_rfl) (by kernel_rfl) (fun _ _ _ h => h) (by rfl) (fun u _ => by go_simp) hS ?_
                    simp only [Act.put, List.setIfInBounds_toArray, List.set_cons_zero, List.set_cons_succ]
                    refine wpAnyH_take' 8 149 (.int .u64 (nl : Int)) rfl rfl (by kernel_rfl) (by kernel_rfl) (by kernel_rfl) (fun _ _ _ h => h) (by rfl) (fun u _ => by go_simp) hS ?_
                    simp only [Act.put, List.setIfInBounds_toArray, List.set_cons_zero, List.set_cons_succ]
                    refine wpAnyH_one (i := 3) (by kernel_rfl) rfl (by rfl) fun K hK => ?_
                    go_simp
                    refine (unhide HLN _ (hS.hs a ha)).mono ?_
                    rintro e WL ⟨rfl, rfl⟩
                    refine hK _ _ hS ?_
                    clear hK K
                    refine wpAnyH_take' 9 150 (.bool false) rfl rfl (by kernel_rfl) (by kernel_rfl) (by kernel_rfl) (fun _ _ _ h => h) (by rfl) (fun u _ => by go_simp) hS ?_
                    simp only [Act.put, List.setIfInBounds_toArray, List.set_cons_zero, List.set_cons_succ]
                    refine wpAnyH_done (by kernel_rfl) ?_ _
                    clear HLN HMA hnl hnli hwu hai
                    have HSD := hide hS
                    clear hS
                    go_wp2
                    go_roundw
                    case rel => exact ⟨k + 1, H2, M2, l2, by omega, by go_num, hide ⟨unhide HSD, unhide HLE⟩⟩
                    case measure => simp [intOf]; omega
        · have HS0 : Hid (St3 w wr bh bm H M ll ll) := (unhide HI).1
          have HLB : Hid (∀ i, i < 3 → (ll i).length ≤ 1048576) := hide fun i hi => Nat.le_trans ((unhide HI).2 i hi) (Nat.le_trans (wts_take_le l k) (unhide HW))
          clear HI HX HW
          go_wp2
          go_loopw [10] (fun vi wr => ∃ a : Nat, a ≤ 3 ∧ vi = .int .i64 a ∧ Hid (St3 w wr bh bm H M ll ll)) (fun vi _ => 3 - (intOf vi).toNat)
          case atStart => exact ⟨0, Nat.zero_le _, rfl, HS0⟩
          case round =>
            clear HS0
            obtain ⟨a, ha3, rfl, HS0⟩ := hrel
            by_cases ha : a < 3
            · have hai : (a : Int) < 3 := by omega
              obtain ⟨am, cm, hMa, _⟩ := ((unhide HS0).ms a ha).lies
              have HMA := hide hMa
              clear hMa
              have hnl : (ll a).length ≤ 1048576 := unhide HLB a ha
              have HSU : Hid (∀ u, Hs u (H a) (ll a) → Calls Try.prog 29 #[.pointer (some ⟨H a, 0, none⟩)] u fun e w' => e = .returned (.agg (ofCells (ll a))) ∧ Below u.heap.size u w') := hide fun u hu => dSum _ _ u hu (by omega)
              have HOF : Hid (∀ u, Calls Try.prog 24 #[.string ⟨(ll a).toArray⟩] u fun e w' => e = .returned (.agg (ofCells (ll a))) ∧ Below u.heap.size u w') := hide fun u => mOf ⟨(ll a).toArray⟩ (by rw [← list_size]; show (ll a).length ≤ _; omega) u
              have HCV : Hid (∀ u, St3 w u bh bm H M ll ll → (convert 24 9 (.slice am (ll a).length cm)).run Try.prog u = .ok (.string ⟨(ll a).toArray⟩) u) := by
                refine hide fun u hu => ?_
                obtain ⟨am', cm', e, hlie⟩ := (hu.ms a ha).lies
                rw [unhide HMA] at e
                cases e
                exact conv_lies hlie _ _ rfl
              have heq := eqSum (ofCells (ll a)) (fun j hj => ⟨.u8, _, by rw [ofCells, List.getElem?_toArray, byteCells_at _ j (by rw [Sha.of_length]; exact hj)]⟩)
              generalize ofCells (ll a) = OC at *
              generalize hnle : (ll a).length = nl at *
              clear hnle hnl
              generalize (⟨(ll a).toArray⟩ : ByteArray) = SS at *
              go_wp2
              refine wp_region_held (S := fun u => St3 w u bh bm H M ll ll) (by kernel_rfl) ?_
              change wpAnyH _ _ _ _ _ _ _ _ (World.drew _)
              have hS := (unhide HS0).drew
              refine wpAnyH_take' 0 155 (.int .i64 (a : Int)) rfl rfl (by kernel_rfl) (by kernel_rfl) (by kernel_rfl) (fun _ _ _ h => h) (by rfl) (fun u _ => by go_simp) hS ?_
              simp only [Act.put, List.setIfInBounds_toArray, List.set_cons_zero, List.set_cons_succ]
              refine wpAnyH_take' 1 156 (.pointer (some ⟨bh, a, none⟩)) rfl rfl (by kernel_rfl) (by kernel_rfl) (by kernel_rfl) (fun _ _ _ h => h) (by rfl) (fun u _ => by go_simp) hS ?_
              simp only [Act.put, List.setIfInBounds_toArray, List.set_cons_zero, List.set_cons_succ]
              refine wpAnyH_take' 2 157 (.pointer (some ⟨H a, 0, none⟩)) rfl rfl (by kernel_rfl) (by kernel_rfl) (by kernel_rfl) (fun _ _ _ h => h) (by rfl) (fun u hu => by have hq := (hu.hcell a ha).1; go_simp) hS ?_
              simp only [Act.put, List.setIfInBounds_toArray, List.set_cons_zero, List.set_cons_succ]
              refine wpAnyH_take' 4 159 (.int .i64 (a : Int)) rfl rfl (by kernel_rfl) (by kernel_rfl) (by kernel_rfl) (fun _ _ _ h => h) (by rfl) (fun u _ => by go_simp) hS ?_
              simp only [Act.put, List.setIfInBounds_toArray, List.set_cons_zero, List.set_cons_succ]
              refine wpAnyH_take' 5 160 (.pointer (some ⟨bm, a, none⟩)) rfl rfl (by kernel_rfl) (by kernel_rfl) (by kernel_rfl) (fun _ _ _ h => h) (by rfl) (fun u _ => by go_simp) hS ?_
              simp only [Act.put, List.setIfInBounds_toArray, List.set_cons_zero, List.set_cons_succ]
              refine wpAnyH_take' 6 161 (.slice am nl cm) rfl rfl (by kernel_rfl) (by kernel_rfl) (by kernel_rfl) (fun _ _ _ h => h) (by rfl) (fun u hu => by have hq := (hu.mcell a ha).1; rw [unhide HMA] at hq; go_simp) hS ?_
              simp only [Act.put, List.setIfInBounds_toArray, List.set_cons_zero, List.set_cons_succ]
              refine wpAnyH_take' 7 162 (.string SS) rfl rfl (by kernel_rfl) (by kernel_rfl) (by kernel_rfl) (fun _ _ _ h => h) (by rfl) (fun u hu => by have hq := unhide HCV u hu; go_simp) hS ?_
              simp only [Act.put, List.setIfInBounds_toArray, List.set_cons_zero, List.set_cons_succ]
              refine wpAnyH_one (i := 3) (by kernel_rfl) rfl (by rfl) fun K hK => ?_
              go_simp
              refine (unhide HSU _ (hS.hs a ha)).mono ?_
              rintro e W5 ⟨rfl, hb5⟩
              have hS5 := hS.below hb5
              refine hK _ _ hS5 ?_
              clear hK K hS hb5
              refine wpAnyH_one (i := 8) (by kernel_rfl) rfl (by rfl) fun K hK => ?_
              go_simp
              refine (unhide HOF _).mono ?_
              rintro e W6 ⟨rfl, hb6⟩
              have hS := hS5.below hb6
              refine hK _ _ hS ?_
              clear hK K hS5 hb6
              refine wpAnyH_take' 9 164 (.bool false) rfl rfl (by kernel_rfl) (by kernel_rfl) (by kernel_rfl) (fun _ _ _ h => h) (by rfl) (fun u _ => by go_simp) hS ?_
              simp only [Act.put, List.setIfInBounds_toArray, List.set_cons_zero, List.set_cons_succ]
              refine wpAnyH_take' 10 165 (.bool false) rfl rfl (by kernel_rfl) (by kernel_rfl) (by kernel_rfl) (fun _ _ _ h => h) (by rfl) (fun u _ => by go_simp) hS ?_
              simp only [Act.put, List.setIfInBounds_toArray, List.set_cons_zero, List.set_cons_succ]
              refine wpAnyH_take' 11 166 (.int .i64 (a : Int)) rfl rfl (by kernel_rfl) (by kernel_rfl) (by kernel_rfl) (fun _ _ _ h => h) (by rfl) (fun u _ => by go_simp) hS ?_
              simp only [Act.put, List.setIfInBounds_toArray, List.set_cons_zero, List.set_cons_succ]
              refine wpAnyH_take' 12 167 (.pointer (some ⟨bh, a, none⟩)) rfl rfl (by kernel_rfl) (by kernel_rfl) (by kernel_rfl) (fun _ _ _ h => h) (by rfl) (fun u _ => by go_simp) hS ?_
              simp only [Act.put, List.setIfInBounds_toArray, List.set_cons_zero, List.set_cons_succ]
              refine wpAnyH_take' 13 168 (.pointer (some ⟨H a, 0, none⟩)) rfl rfl (by kernel_rfl) (by kernel_rfl) (by kernel_rfl) (fun _ _ _ h => h) (by rfl) (fun u hu => by have hq := (hu.hcell a ha).1; go_simp) hS ?_
              simp only [Act.put, List.setIfInBounds_toArray, List.set_cons_zero, List.set_cons_succ]
              refine wpAnyH_take' 15 170 (.int .i64 (a : Int)) rfl rfl (by kernel_rfl) (by kernel_rfl) (by kernel_rfl) (fun _ _ _ h => h) (by rfl) (fun u _ => by go_simp) hS ?_
              simp only [Act.put, List.setIfInBounds_toArray, List.set_cons_zero, List.set_cons_succ]
              refine wpAnyH_take' 16 171 (.pointer (some ⟨bm, a, none⟩)) rfl rfl (by kernel_rfl) (by kernel_rfl) (by kernel_rfl) (fun _ _ _ h => h) (by rfl) (fun u _ => by go_simp) hS ?_
              simp only [Act.put, List.setIfInBounds_toArray, List.set_cons_zero, List.set_cons_succ]
              refine wpAnyH_take' 17 172 (.slice am nl cm) rfl rfl (by kernel_rfl) (by kernel_rfl) (by kernel_rfl) (fun _ _ _ h => h) (by rfl) (fun u hu => by have hq := (hu.mcell a ha).1; rw [unhide HMA] at hq; go_simp) hS ?_
              simp only [Act.put, List.setIfInBounds_toArray, List.set_cons_zero, List.set_cons_succ]
              refine wpAnyH_take' 18 173 (.string SS) rfl rfl (by kernel_rfl) (by kernel_rfl) (by kernel_rfl) (fun _ _ _ h => h) (by rfl) (fun u hu => by have hq := unhide HCV u hu; go_simp) hS ?_
              simp only [Act.put, List.setIfInBounds_toArray, List.set_cons_zero, List.set_cons_succ]
              refine wpAnyH_one (i := 14) (by kernel_rfl) rfl (by rfl) fun K hK => ?_
              go_simp
              refine (unhide HSU _ (hS.hs a ha)).mono ?_
              rintro e W7 ⟨rfl, hb7⟩
              have hS7 := hS.below hb7
              refine hK _ _ hS7 ?_
              clear hK K hS hb7
              refine wpAnyH_one (i := 19) (by kernel_rfl) rfl (by rfl) fun K hK => ?_
              go_simp
              refine (unhide HOF _).mono ?_
              rintro e W8 ⟨rfl, hb8⟩
              have hS := hS7.below hb8
              refine hK _ _ hS ?_
              clear hK K hS7 hb8
              refine wpAnyH_take' 20 175 (.bool false) rfl rfl (by kernel_rfl) (by kernel_rfl) (by kernel_rfl) (fun _ _ _ h => h) (by rfl) (fun u _ => by go_simp) hS ?_
              simp only [Act.put, List.setIfInBounds_toArray, List.set_cons_zero, List.set_cons_succ]
              refine wpAnyH_take' 21 176 (.bool false) rfl rfl (by kernel_rfl) (by kernel_rfl) (by kernel_rfl) (fun _ _ _ h => h) (by rfl) (fun u _ => by go_simp) hS ?_
              simp only [Act.put, List.setIfInBounds_toArray, List.set_cons_zero, List.set_cons_succ]
              refine wpAnyH_done (by kernel_rfl) ?_ _
              have HS8 := hide hS
              clear hS heq HSU HOF HCV HMA
              go_wp2
              go_roundw
              case rel => exact ⟨a + 1, by omega, by go_num, hide (unhide HS8)⟩
              case measure => simp [intOf]; omega
            · go_wp2
              go_ret
              exact ⟨rfl, (unhide HS0).bel⟩
end Go.Proofs.Ytpbifpbblinopaa
