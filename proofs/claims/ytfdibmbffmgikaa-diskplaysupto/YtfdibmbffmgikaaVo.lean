/- The disk's laws: DiskPlays. -/
import Derived.Test.YtfdibmbffmgikaaVj
import Derived.Test.YtfdibmbffmgikaaVn
namespace Go.Proofs.Ytfdibmbffmgikaa
open Go.RowKit Go.Lib

theorem Dsk.under {B B' : Nat} {u : World} {D : Nat} {F : List Nat} {d : Dk} (h : Dsk B u D F d) (hb : B' ≤ B) : Dsk B' u D F d := by
  obtain ⟨L, T, v, f, rfl, h⟩ := h
  refine ⟨L, T, v, f, rfl, ⟨{ h.toDskM with pend := ⟨h.pend.1, ?_⟩, bD := Nat.le_trans hb h.bD, bL := Nat.le_trans hb h.bL, bT := Nat.le_trans hb h.bT }, h.lst⟩⟩
  rcases h.pend.2 with h' | ⟨g, cap, cur, hv, h1, h2⟩
  · exact .inl h'
  · exact .inr ⟨g, cap, cur, hv, Nat.le_trans hb h1, h2⟩
theorem owns_under {B B' : Nat} {u : World} {t : TypeId} {s n : Nat} {v : Value} {xs : List Value} (h : u.ownsRow B t s v n xs) (hb : B' ≤ B) : u.ownsRow B' t s v n xs := by
  refine ⟨h.1, ?_⟩
  rcases h.2 with h' | ⟨g, cap, cur, hv, h1, h2⟩
  · exact .inl h'
  · exact .inr ⟨g, cap, cur, hv, Nat.le_trans hb h1, h2⟩
theorem Rk.under {B B' : Nat} {u : World} {M : Nat} {F : List Nat} {d : Dk} (h : Rk B u M F d) (hb : B' ≤ B) : Rk B' u M F d := by
  obtain ⟨v1, v2, rfl, h⟩ := h
  exact ⟨v1, v2, rfl, { h with lies := owns_under h.lies hb, pend := owns_under h.pend hb, bM := Nat.le_trans hb h.bM }⟩
/-- two disks, each with the document's, all apart -/
structure Both (B : Nat) (w : World) (D M : Nat) (F G : List Nat) (d : Dk) (O N : Nat) (F2 G2 : List Nat) (e : Dk) : Prop where
  t1 : Two B w D M F G d d
  t2 : Two B w O N F2 G2 e e
  ap : ∀ k ∈ F ++ G, k ∉ F2 ++ G2
section
variable {B : Nat} {w w' : World} {D M O N : Nat} {F G F2 G2 : List Nat} {d e d' : Dk}
theorem Both.swap (h : Both B w D M F G d O N F2 G2 e) : Both B w O N F2 G2 e D M F G d := ⟨h.t2, h.t1, fun k hk hx => h.ap k hx hk⟩
theorem Both.one (h : Both B w D M F G d O N F2 G2 e) (hs : SP B w w' D M F G d') : ∃ F' G', Both B w' D M F' G' d' O N F2 G2 e := by
  obtain ⟨F', G', h1, h2, h3, h4⟩ := hs
  refine ⟨F', G', h1, h.t2.upd h2 (fun k hk hx => h.ap k hx hk), fun k hk hx => ?_⟩
  have hlt := (h.t2.ge k hx).2
  rcases List.mem_append.1 hk with hk | hk
  · exact (h3 k hk).elim (fun h' => h.ap k (by simp [h']) hx) (fun h' => by omega)
  · exact (h4 k hk).elim (fun h' => h.ap k (by simp [h']) hx) (fun h' => by omega)
theorem SP.fall (h : Two B w D M F G d d) (hB : B ≤ w.heap.size) (hs : SP B w w' D M F G d') : Below B w w' := (hs.below h hB).1
end
set_option maxRecDepth 100000 in
set_option maxHeartbeats 16000000 in
theorem plays_walk (x : Int) (l : List St) (ao : Option Addr) (cap : Nat) (ks : List Bool) (ao2 : Option Addr) (cap2 : Nat) (u : World) (hS : Sts u u.heap.size ao l) (hK : Kb u u.heap.size ao2 ks) (h1 : l.length ≤ 1048576) (h2 : ks.length ≤ 1048576) (h3 : ∀ x ∈ l, x.Small) :
    Calls Try.prog 4 #[.int .i64 x, .slice ao l.length cap, .slice ao2 ks.length cap2] u fun e u' => e = .returned (.bool true) ∧ Below u.heap.size u u' := by
  obtain ⟨B, hB⟩ : ∃ B, B = u.heap.size := ⟨_, rfl⟩
  rw [← hB] at hS hK ⊢
  have HB := hide hB
  have HLe : Hid (∀ w, Below B u w → B ≤ w.heap.size) := fun w h => by rw [hB]; exact h.size
  obtain ⟨m, hm⟩ : ∃ m, m = l.length := ⟨_, rfl⟩
  obtain ⟨q, hq⟩ : ∃ q, q = ks.length := ⟨_, rfl⟩
  have HM := hide hm
  have HQ := hide hq
  have HS := hide hS
  have HK := hide hK
  have HN2 := hide h3
  have hm1 : m ≤ 1048576 := by omega
  have hmi : (m : Int) ≤ 1048576 := by omega
  have hqi : (q : Int) ≤ 1048576 := by omega
  rw [← hm, ← hq]
  clear hS hK h1 h2 h3 hm hq hB
  by_cases hx : x < 1 ∨ 4096 < x
  · have HR := hide (rNewBad x hx)
    have HD := hide (dNewBad x hx)
    have HBR : Hid (Below B u u) := Below.refl _ _
    clear hx
    go_enter Try.func4, Try.ntmps4
    go_wp2_with fail
    refine (unhide HR u).mono ?_
    rintro e w1 ⟨rfl, hw⟩
    obtain rfl := hw.symm
    clear hw
    go_wp2_with fail
    refine (unhide HD u).mono ?_
    rintro e w1 ⟨rfl, hw⟩
    obtain rfl := hw.symm
    clear hw
    go_wp2_with fail
    refine (unhide HD u).mono ?_
    rintro e w1 ⟨rfl, hw⟩
    obtain rfl := hw.symm
    clear hw
    go_wp2
    go_ret
    exact ⟨rfl, unhide HBR⟩
  · obtain ⟨n, rfl⟩ := Int.eq_ofNat_of_zero_le (show 0 ≤ x by omega)
    have hn0 : 0 < n := by omega
    have hn1 : n ≤ 4096 := by omega
    have HR := hide (rNew n hn0 hn1)
    have HD := hide (dNew n hn0 hn1)
    obtain ⟨d0, hd0⟩ : ∃ z, z = Dk.blank n := ⟨_, rfl⟩
    have HP0 : Hid (d0.pend = []) := by rw [hd0]; rfl
    rw [← hd0] at HR HD
    clear hx hn0 hn1 hd0
    go_enter Try.func4, Try.ntmps4
    go_wp2_with fail
    refine (unhide HR u).mono ?_
    rintro e w1 ⟨M, v1, rfl, hrk, hb⟩
    have HRX : Hid (RkX B w1 M v1 (.slice none 0 0) d0) := by rw [unhide HB]; exact hrk
    have HB1 : Hid (Below B u w1) := by rw [unhide HB]; exact hb
    clear hrk hb
    go_wp2_with fail
    refine (unhide HD w1).mono ?_
    rintro e w2 ⟨D, F, rfl, hdk, hb⟩
    have HDK := hide hdk
    have HW2 := hide hb
    have HB2 : Hid (Below B u w2) := (unhide HB1).trans (hb.mono (unhide HLe _ (unhide HB1)))
    clear hdk hb
    go_wp2_with fail
    refine (unhide HD w2).mono ?_
    rintro e w3 ⟨O, F2, rfl, hdk, hb⟩
    have HDO := hide hdk
    have HW3 := hide hb
    have HB3 : Hid (Below B u w3) := (unhide HB2).trans (hb.mono (unhide HLe _ (unhide HB2)))
    clear hdk hb HR HD
    go_wp2_with fail
    refine (rCopyX (((unhide HRX).below (unhide HW2)).below (unhide HW3)) (unhide HP0)).mono ?_
    rintro e w4 ⟨N, G2, rfl, hrk, hb⟩
    have HB4 : Hid (Below B u w4) := (unhide HB3).trans (hb.mono (unhide HLe _ (unhide HB3)))
    have HBO : Hid (∃ G, Both B w4 D M F G d0 O N F2 G2 d0 ∧ Below B u w4 ∧ d0.pend.length ≤ 0 ∧ d0.pend.length ≤ 0) := by
      have r1 : Rk B w1 M (M :: (v1.ownBlock.toList ++ (Value.slice none 0 0).ownBlock.toList)) d0 := ⟨v1, _, rfl, unhide HRX⟩
      have s12 := (unhide HW2).size
      have s23 := (unhide HW3).size
      have hp : d0.pend.length ≤ 0 := by rw [unhide HP0]; exact Nat.le_refl _
      refine ⟨_, ⟨⟨(((unhide HDK).below (unhide HW3)).below hb).under (unhide HLe _ (unhide HB1)), ((r1.below (unhide HW2)).below (unhide HW3)).below hb, fun k hk hx => ?_⟩, ⟨((unhide HDO).below hb).under (unhide HLe _ (unhide HB2)), hrk.under (unhide HLe _ (unhide HB3)), fun k hk hx => ?_⟩, fun k hk hx => ?_⟩, unhide HB4, hp, hp⟩
      · have := ((unhide HDK).ge k hk).1; have := (r1.ge k hx).2; omega
      · have := ((unhide HDO).ge k hk).2; have := (hrk.ge k hx).1; omega
      · rcases List.mem_append.1 hx with hx | hx
        · have h2 := (unhide HDO).ge k hx
          rcases List.mem_append.1 hk with hk | hk
          · have := ((unhide HDK).ge k hk).2; omega
          · have := (r1.ge k hk).2; omega
        · have h2 := hrk.ge k hx
          rcases List.mem_append.1 hk with hk | hk
          · have := ((unhide HDK).ge k hk).2; omega
          · have := (r1.ge k hk).2; omega
    clear hrk hb HRX HDK HDO HW2 HW3 HB1 HB2 HB3 HB4
    go_wp2
    go_loopw [14] (fun vi wr => ∃ (k : Nat) (F G F2 G2 : List Nat) (d e : Dk), k ≤ m ∧ vi = .int .i64 k ∧ Hid (Both B wr D M F G d O N F2 G2 e ∧ Below B u wr ∧ d.pend.length ≤ k ∧ e.pend.length ≤ k)) (fun vi _ => m - (intOf vi).toNat)
    case atStart =>
      obtain ⟨G, h⟩ := unhide HBO
      exact ⟨0, F, G, F2, G2, d0, d0, Nat.zero_le _, rfl, h⟩
    case round =>
      clear HBO
      obtain ⟨k, F, G, F2, G2, d, e, hk, rfl, HI⟩ := hrel
      by_cases hlt : k < m
      · have hki : (k : Int) < (m : Int) := by omega
        have hkl : k < l.length := by rw [← unhide HM]; exact hlt
        obtain ⟨sb, so, hao, hbB, hat⟩ := ((unhide HS).below (unhide HI).2.1).at' (by omega)
        subst hao
        have HAT := hide (hat k hkl)
        have HOK := hide ((unhide HS).ok _ (List.getElem_mem hkl))
        have HSM := hide (unhide HN2 _ (List.getElem_mem hkl))
        have HKB := hide (((unhide HS).ks _ (List.getElem_mem hkl)).below (unhide HI).2.1)
        have hix := ixSteps sb so m cap k hlt
        clear hat hbB
        obtain ⟨x, hx⟩ : ∃ x, x = l[k] := ⟨_, rfl⟩
        rw [← hx] at HAT HOK HSM HKB
        clear hx hkl
        obtain ⟨o7, ho7⟩ : ∃ z, z = so + k * 7 := ⟨_, rfl⟩
        rw [← ho7] at hix HAT
        clear ho7
        have HR7 := hide (unhide HAT).range
        obtain ⟨C, hC⟩ : ∃ C, C = x.cs := ⟨_, rfl⟩
        have HC1 : Hid (C.size = 7) := by rw [hC]; exact x.cs_size
        rw [← hC] at HR7
        have HBW : Hid (B ≤ wr.heap.size) := unhide HLe _ (unhide HI).2.1
        have HST1 := hide (lStep (unhide HI).1.t1 (unhide HBW) (by have := (unhide HI).2.2.1; omega) x (unhide HOK) (unhide HKB) (unhide HSM))
        have HST2 := hide (lStep (unhide HI).1.t2 (unhide HBW) (by have := (unhide HI).2.2.2; omega) x (unhide HOK) (unhide HKB) (unhide HSM))
        rw [← hC] at HST1 HST2
        clear hC
        by_cases hsel : ∃ h : k < ks.length, ks[k] = true
        · obtain ⟨hkq, hkt⟩ := hsel
          obtain ⟨g, o, hao2, hgB, hcs⟩ := ((unhide HK).below (unhide HI).2.1) (by omega)
          subst hao2
          have hcc := hcs k hkq
          rw [hkt] at hcc
          have hkq2 : k < q := by rw [unhide HQ]; exact hkq
          have hkqi : (k : Int) < (q : Int) := by omega
          have hix2 := ixBools g o q cap2 k hkq2
          generalize o + k = j0 at *
          clear hcs hkt hkq
          go_wp2_with (refine wpList_load_mid (by rfl) 47 (.tmp 87) (by rfl) sb o7 (by rfl) C.toList _ (unhide HR7) stepUnd rfl (by rw [Array.length_toList, unhide HC1]; exact stepInfo) ?_; simp only [Act.put, List.setIfInBounds_toArray, List.set_cons_zero, List.set_cons_succ, Array.toArray_toList])
          refine (unhide HST2).mono ?_
          rintro e' w5 ⟨rfl, hsp⟩
          have HNX : Hid (∃ F' G', Both B w5 D M F G d O N F' G' (e.stepped x) ∧ Below B u w5 ∧ d.pend.length ≤ k + 1 ∧ (e.stepped x).pend.length ≤ k + 1) := by
            obtain ⟨F', G', hb⟩ := (unhide HI).1.swap.one hsp
            exact ⟨F', G', hb.swap, (unhide HI).2.1.trans (hsp.fall (unhide HI).1.t2 (unhide HBW)), by have := (unhide HI).2.2.1; omega, by have := e.stepped_pend x; have := (unhide HI).2.2.2; omega⟩
          clear hsp HST1 HST2 HR7 HAT
          go_wp2
          go_roundw
          case rel =>
            obtain ⟨F', G', h⟩ := unhide HNX
            exact ⟨k + 1, F, G, F', G', d, e.stepped x, by omega, by go_num, h⟩
          case measure => simp [intOf]; omega
        · have HSEL := hide hsel
          clear hsel
          by_cases hkq : k < ks.length
          · obtain ⟨g, o, hao2, hgB, hcs⟩ := ((unhide HK).below (unhide HI).2.1) (by omega)
            subst hao2
            have hcc := hcs k hkq
            have hkf : ks[k] = false := by
              cases hb : ks[k] with
              | false => rfl
              | true => exact absurd ⟨hkq, hb⟩ (unhide HSEL)
            rw [hkf] at hcc
            have hkq2 : k < q := by rw [unhide HQ]; exact hkq
            have hkqi : (k : Int) < (q : Int) := by omega
            have hix2 := ixBools g o q cap2 k hkq2
            generalize o + k = j0 at *
            clear hcs hkf hkq
            go_wp2_with (refine wpList_load_mid (by rfl) 47 (.tmp 94) (by rfl) sb o7 (by rfl) C.toList _ (unhide HR7) stepUnd rfl (by rw [Array.length_toList, unhide HC1]; exact stepInfo) ?_; simp only [Act.put, List.setIfInBounds_toArray, List.set_cons_zero, List.set_cons_succ, Array.toArray_toList])
            refine (unhide HST1).mono ?_
            rintro e' w5 ⟨rfl, hsp⟩
            have HNX : Hid (∃ F' G', Both B w5 D M F' G' (d.stepped x) O N F2 G2 e ∧ Below B u w5 ∧ (d.stepped x).pend.length ≤ k + 1 ∧ e.pend.length ≤ k + 1) := by
              obtain ⟨F', G', hb⟩ := (unhide HI).1.one hsp
              exact ⟨F', G', hb, (unhide HI).2.1.trans (hsp.fall (unhide HI).1.t1 (unhide HBW)), by have := d.stepped_pend x; have := (unhide HI).2.2.1; omega, by have := (unhide HI).2.2.2; omega⟩
            clear hsp HST1 HST2 HR7 HAT
            go_wp2
            go_roundw
            case rel =>
              obtain ⟨F', G', h⟩ := unhide HNX
              exact ⟨k + 1, F', G', F2, G2, d.stepped x, e, by omega, by go_num, h⟩
            case measure => simp [intOf]; omega
          · have hkqi : ¬ (k : Int) < (q : Int) := by have := unhide HQ; omega
            go_wp2_with (refine wpList_load_mid (by rfl) 47 (.tmp 94) (by rfl) sb o7 (by rfl) C.toList _ (unhide HR7) stepUnd rfl (by rw [Array.length_toList, unhide HC1]; exact stepInfo) ?_; simp only [Act.put, List.setIfInBounds_toArray, List.set_cons_zero, List.set_cons_succ, Array.toArray_toList])
            refine (unhide HST1).mono ?_
            rintro e' w5 ⟨rfl, hsp⟩
            have HNX : Hid (∃ F' G', Both B w5 D M F' G' (d.stepped x) O N F2 G2 e ∧ Below B u w5 ∧ (d.stepped x).pend.length ≤ k + 1 ∧ e.pend.length ≤ k + 1) := by
              obtain ⟨F', G', hb⟩ := (unhide HI).1.one hsp
              exact ⟨F', G', hb, (unhide HI).2.1.trans (hsp.fall (unhide HI).1.t1 (unhide HBW)), by have := d.stepped_pend x; have := (unhide HI).2.2.1; omega, by have := (unhide HI).2.2.2; omega⟩
            clear hsp HST1 HST2 HR7 HAT
            go_wp2
            go_roundw
            case rel =>
              obtain ⟨F', G', h⟩ := unhide HNX
              exact ⟨k + 1, F', G', F2, G2, d.stepped x, e, by omega, by go_num, h⟩
            case measure => simp [intOf]; omega
      · have hkk : k = m := by omega
        subst hkk
        have HBW : Hid (B ≤ wr.heap.size) := unhide HLe _ (unhide HI).2.1
        go_wp2_with fail
        refine (lAsked (unhide HI).1.t1).mono ?_
        rintro e' w5 ⟨rfl, hu⟩
        have HT5 := hide ((unhide HI).1.t2.upd hu (fun _ _ => by simp))
        have HB5 : Hid (Below B u w5) := (unhide HI).2.1.trans (hu.below (unhide HBW) (fun k hk => by cases hk))
        clear hu
        go_wp2_with fail
        refine (lAsked (unhide HT5)).mono ?_
        rintro e' w6 ⟨rfl, hu⟩
        have HB6 : Hid (Below B u w6) := (unhide HB5).trans (hu.below (unhide HLe _ (unhide HB5)) (fun k hk => by cases hk))
        clear hu
        go_wp2
        go_ret
        exact ⟨rfl, unhide HB6⟩
end Go.Proofs.Ytfdibmbffmgikaa
