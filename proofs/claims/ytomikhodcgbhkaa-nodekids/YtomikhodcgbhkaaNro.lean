/- Nodes: the walk of NodeKids, a branch that may be. -/
import Derived.Test.YtomikhodcgbhkaaNrn
namespace Go.Proofs.Ytomikhodcgbhkaa
open Go.RowKit

theorem mid_get {α : Type} (l : List α) (k : Nat) (x : α) (hk : k ≤ l.length) (h : k < (l.take k ++ (x :: l.drop k)).length) : (l.take k ++ (x :: l.drop k))[k]'h = x := by
  rw [List.getElem_append_right (by rw [List.length_take]; omega)]
  simp [List.length_take, Nat.min_eq_left hk]
theorem wrap_succ {k k1 : Nat} (h : (k : Int) ≤ 1993) (hk : k1 = k + 1) : wrap64 ((k : Int) + 1) = (k1 : Int) ∧ IntKind.i64.wrap ((k : Int) + 1) = (k1 : Int) := by
  subst hk
  constructor
  · unfold wrap64; omega
  · rw [IntKind.wrap_i64]; omega
set_option maxRecDepth 100000 in
set_option maxHeartbeats 8000000 in
theorem kids8_yes (n : Nd) (a : Nv) (key : ByteArray) (kid : Nat) (u : World) (h : NdAt u n a) (hn : a.Nil) (hb : n.cells.length ≤ 4398046511104 ∧ n.keys.length ≤ 8796093022208 ∧ n.kids.length ≤ 35184372088832) (hyes : n.refused false = 0) (hkl : kid < 4294967296) :
    Calls Try.prog 14 #[a.v n, .string key, .int .u32 (kid : Int)] u fun e u' => e = .returned (.bool true) ∧ Below u.heap.size u u' := by
  have hz := Nd.refused_zero.1 hyes
  have hch := Nd.check_zero.2 hz.1
  have hle := hz.1.lens
  have hlf : n.leaf = false := hz.2
  have hkind := hz.1.kind
  have hk3 := hkind
  unfold Nd.Kind at hk3
  rw [if_neg (by rw [hlf]; decide)] at hk3
  have hkp := kplc_le n.keys key
  have H0 := hide (fun v : World => nAwake v)
  have H1 := hide (fun (v : World) (hv : Below u.heap.size u v) => rCheck n a v (h.below hv) (Nd.kind_sum ⟨hb.1, hb.2.1⟩))
  have H2 := hide (fun (v : World) (hv : Below u.heap.size u v) => lTwin n a v (h.below hv) hn (by omega))
  have H3 := hide (fun (v : World) (b : Nv) (hv : NdAt v n b) => (nKid n b key v hv).mono (fun e w' hh => And.intro (hh.1 hyes) hh.2.2))
  have HGB := hide (fun (hbad : ¬ keyOk key ∨ kid = 0) (v : World) (b : Nv) (hv : NdAt v n b) => nGrowBad n b (kplc n.keys key) key kid v hv hyes (by omega) hbad)
  have HGG := hide (fun (hk : keyOk key) (hq : kid ≠ 0) (v : World) (b : Nv) (hv : NdAt v n b) => nGrow n b (kplc n.keys key) key kid v hv hyes (by omega) hk hq hkl)
  have HKEYS : Hid (Lies u a.ka (flatK n.keys)) := h.keys
  have HBE := hide (fun (i : Nat) (h1 : i < kplc n.keys key) (h2 : i < n.keys.length) => kplc_below (ks := n.keys) (key := key) h1 h2)
  have HAB := hide (fun (i : Nat) (h1 : kplc n.keys key ≤ i) (h2 : i < n.keys.length) => kplc_above (ks := n.keys) (key := key) hz.1.up.2 h1 h2)
  have HN0 := hide h
  have HLF := hide hlf
  have HKI := hide hkind
  have HGK : Hid (n.kids.length = n.keys.length + 1) := hk3.2.2
  have HCE : Hid (n.cells = []) := List.eq_nil_of_length_eq_zero hk3.2.1
  have HUP : Hid (rises n.keys) := hz.1.up.2
  have hgnl : (n.kids.length : Int) ≤ 1993 := by omega
  have H3b : Hid (∀ b : Nv, b.v n = .agg #[.bool false, .slice b.ca n.cells.length b.cc, .slice b.ka n.keys.length b.kc, .slice b.ga n.kids.length b.gc]) := fun b => by show _ = _; rw [Nv.v_eq, hlf]
  have hkpi : ((kplc n.keys key : Nat) : Int) ≤ (n.keys.length : Int) := by omega
  have hknl : (n.keys.length : Int) ≤ 1992 := by omega
  have hav := unhide H3b a
  rw [hch] at H1
  obtain ⟨N, hN⟩ : ∃ N, N = u.heap.size := ⟨_, rfl⟩
  have HN := hide hN
  rw [← hN] at H1 H2 ⊢
  rw [hav] at H1 H2 ⊢
  clear hN hn hb hyes hz hch hkind hav h
  obtain ⟨ca, cc, ka, kc, ga, gc⟩ := a
  obtain ⟨k, hk⟩ : ∃ k, k = kplc n.keys key := ⟨_, rfl⟩
  rw [← hk] at H3 HGB HGG HBE HAB hkp hkpi
  have HKK := hide hk
  obtain ⟨cn, hcn⟩ : ∃ cn, cn = n.cells.length := ⟨_, rfl⟩
  obtain ⟨kn, hkn⟩ : ∃ kn, kn = n.keys.length := ⟨_, rfl⟩
  obtain ⟨gn, hgn⟩ : ∃ gn, gn = n.kids.length := ⟨_, rfl⟩
  have HKN := hide hkn
  have HGN := hide hgn
  rw [← hcn, ← hkn, ← hgn] at H1 H2 H3b ⊢
  rw [← hkn] at hkp hkpi hknl
  rw [← hgn] at hgnl
  clear hk hcn hkn hgn hk3 hle hlf
  go_enter Try.func14, Try.ntmps14
  go_wp2_with (first
    | ((with_reducible refine wpList_box_node (by rfl) (.tmp 0) (by rfl) (some 3) (by rfl) N (unhide HN) false ca cn cc ka kn kc ga gn gc (by with_unfolding_all rfl) ?_); intro W0 HX0 HB0 HS0; simp only [Act.put, List.setIfInBounds_toArray, List.set_cons_zero, List.set_cons_succ])
    | fail)
  have HK0 : Hid (Kb u W0 N (.cells #[.bool false, .slice ca cn cc, .slice ka kn kc, .slice ga gn gc] 26 (0, 0))) := ⟨unhide HB0, unhide HX0⟩
  clear HX0 HB0 HS0
  refine (unhide H0 _).mono ?_
  rintro e W1 ⟨rfl, hb1⟩
  have HK1 := hide ((unhide HK0).below hb1)
  clear hb1 HK0
  obtain ⟨y0, y1, y2, y3⟩ := box4 (unhide HK1).2
  go_wp2_with fail
  refine (unhide H1 _ (unhide HK1).1).mono ?_
  rintro e W2 ⟨rfl, hb2⟩
  have HK2 := hide ((unhide HK1).below hb2)
  clear hb2 HK1 y0 y1 y2 y3
  obtain ⟨y0, y1, y2, y3⟩ := box4 (unhide HK2).2
  go_wp2_with fail
  refine (unhide H2 _ (unhide HK2).1).mono ?_
  rintro e W3 ⟨b, rfl, hnd, _, hb3⟩
  have HK3 := hide ((unhide HK2).below hb3)
  have HC3 := hide (unhide H3 W3 b hnd)
  rw [unhide H3b b] at HC3 ⊢
  clear hb3 HK2 y0 y1 y2 y3 hnd
  go_wp2_with fail
  refine (unhide HC3).mono ?_
  rintro e W4 ⟨rfl, hb4⟩
  have HK4 := hide ((unhide HK3).below hb4)
  clear hb4 HC3 HK3
  obtain ⟨y0, y1, y2, y3⟩ := box4 (unhide HK4).2
  have hk0 : ¬ (k : Int) < 0 := by omega
  have hk1 : ¬ kn < k := by omega
  go_wp2_with fail
  go_loopw [8] (fun i wr => ∃ j : Nat, j ≤ kn ∧ i = .int .i64 j ∧ wr = W4) (fun i _ => kn - (intOf i).toNat)
  case atStart => exact ⟨0, Nat.zero_le _, rfl, rfl⟩
  case round =>
    obtain ⟨j, hj, rfl, hw⟩ := hrel
    obtain rfl := hw.symm
    clear hw
    by_cases hlt : j < kn
    · have hji : (j : Int) < (kn : Int) := by omega
      have hjl : j < n.keys.length := by rw [← unhide HKN]; exact hlt
      have hbw : Below u.heap.size u W4 := by rw [← unhide HN]; exact (unhide HK4).1
      obtain ⟨g, o, hao, hc⟩ := ((unhide HKEYS).below hbw).ky hjl
      have hao : ka = some ⟨g, o, none⟩ := hao
      subst hao
      have hix := ixStrs g o kn kc j hlt
      have hlo : j < k → Op.bytesLess key.toList n.keys[j].toList = false := fun hh => unhide HBE j hh hjl
      have hhi : ¬ j < k → Op.bytesLess key.toList n.keys[j].toList = true := fun hh => unhide HAB j (by omega) hjl
      generalize n.keys[j] = q at *
      clear hjl hbw
      by_cases hjk : j < k
      · have hjki : (j : Int) < (k : Int) := by omega
        have h1 := hlo hjk
        clear hlo hhi
        cases h2 : Op.bytesLess q.toList key.toList
        · have h3 : (q.toList == key.toList) = true := beq_iff_eq.2 (bl_total _ _ h2 h1)
          go_wp2
          go_roundw
          case rel => exact ⟨j + 1, by omega, by go_num, trivial⟩
          case measure => simp [intOf]; omega
        · go_wp2
          go_roundw
          case rel => exact ⟨j + 1, by omega, by go_num, trivial⟩
          case measure => simp [intOf]; omega
      · have hjki : ¬ (j : Int) < (k : Int) := by omega
        have h1 := hhi hjk
        clear hlo hhi
        have h2 : Op.bytesLess q.toList key.toList = false := lt_asymm (a := key) (b := q) h1
        have h3 : (q.toList == key.toList) = false := beq_false_of_ne (fun h => by rw [h, bl_irrefl] at h1; cases h1)
        go_wp2
        go_roundw
        case rel => exact ⟨j + 1, by omega, by go_num, trivial⟩
        case measure => simp [intOf]; omega
    · obtain rfl : j = kn := by omega
      have hji : ¬ (j : Int) < (j : Int) := by omega
      go_wp2_with fail
      refine (unhide H2 _ (unhide HK4).1).mono ?_
      rintro e W5 ⟨b5, rfl, hnd5, _, hb5⟩
      have HK5 := hide ((unhide HK4).below hb5)
      have HND5 := hide hnd5
      rw [unhide H3b b5]
      clear hb5 HK4 y0 y1 y2 y3 hnd5 H0 H1 H2 H3
      by_cases hgood : keyOk key ∧ kid ≠ 0
      · have HC5 := hide (unhide HGG hgood.1 hgood.2 W5 b5 (unhide HND5))
        rw [unhide H3b b5] at HC5
        go_wp2_with fail
        refine (unhide HC5).mono ?_
        rintro e W6 ⟨V, E, rfl, hR, hb6⟩
        have HK6 := hide ((unhide HK5).below hb6)
        clear hb6 HC5 HK5 HND5
        obtain ⟨M, hM⟩ : ∃ M, M = W6.heap.size := ⟨_, rfl⟩
        have HM := hide hM
        have HNM : Hid (N ≤ M) := by rw [show M = W6.heap.size from hM]; exact Nat.le_of_lt (Array.getElem?_eq_some_iff.1 (unhide HK6).2).1
        clear hM
        have HKG : Hid ((n.grow k key kid).Kind) := Nd.grow_kind (unhide HKI) (unhide HLF) (by rw [← unhide HKN]; exact hkp) hgood.2
        rcases hR with ⟨hm0, rfl, bb, rfl, hnm⟩ | ⟨hm1, rfl, rfl⟩
        · as_aux_lemma =>
          have HMN : Hid (NdAt W6 (n.grow k key kid) bb) := hnm
          have hkl2 : k ≤ n.keys.length := by rw [← unhide HKN]; exact hkp
          have hgl2 : n.kids.length = n.keys.length + 1 := unhide HGK
          have HRF : Hid ((n.grow k key kid).refused false = 0) := Nd.refused_zero.2 ⟨Nd.check_zero.1 hm0, rfl⟩
          have HSH : Hid ((n.grow k key kid).shrink k = n) := Nd.grow_shrink (unhide HLF) (unhide HCE) hkl2 hgl2
          have HKP : Hid (kplc (n.grow k key kid).keys key = k + 1) := by
            have := kplc_grow (key := key) (unhide HUP)
            rw [← unhide HKK] at this
            exact this
          have hlk : (n.grow k key kid).keys.length = j + 1 := by
            simp only [Nd.grow, List.length_append, List.length_take, List.length_cons, List.length_drop]
            rw [unhide HKN]
            omega
          have hlg : (n.grow k key kid).kids.length = gn + 1 := by
            simp only [Nd.grow, List.length_append, List.length_take, List.length_cons, List.length_drop]
            rw [unhide HGN]
            omega
          have HATK : Hid (∀ h, (n.grow k key kid).keys[k]'h = key) := fun h => mid_get n.keys k key hkl2 h
          have HATG : Hid (∀ h, (n.grow k key kid).kids[k + 1]'h = kid) := fun h => mid_get n.kids (k + 1) kid (by omega) h
          have HVV : Hid (∀ x : Nv, x.v (n.grow k key kid) = .agg #[.bool false, .slice x.ca 0 x.cc, .slice x.ka (j + 1) x.kc, .slice x.ga (gn + 1) x.gc]) := fun x => by
            rw [Nv.v_eq, hlk, hlg]
            rfl
          have HLK := hide hlk
          have HLG := hide hlg
          clear hnm hm0 hkl2 hgl2 hlk hlg HKG HGG HGB HBE HAB
          generalize n.grow k key kid = m at *
          rw [unhide HVV bb]
          go_wp2_with (first
            | ((with_reducible refine wpList_alloc_node (by rfl) (by rfl) (some 9) (by rfl) M (unhide HM) ?_); intro W7 HX7 HB7 HS7; simp only [Act.put, List.setIfInBounds_toArray, List.set_cons_zero, List.set_cons_succ])
            | ((with_reducible refine wpList_store_node (by rfl) (.tmp 9) (.tmp 65) (by rfl) M false bb.ca 0 bb.cc bb.ka (j + 1) bb.kc bb.ga (gn + 1) bb.gc (by with_unfolding_all rfl) (by with_unfolding_all rfl) (unhide HX7) ?_); intro W8 HX8 HE8; simp only [Act.put]; obtain ⟨z0, z1, z2, z3⟩ := box4 (unhide HX8))
            | fail)
          have HB8 : Hid (Below W6.heap.size W6 W8) := by
            rw [unhide HE8, ← unhide HM]
            exact belowRow (unhide HB7) (Nat.le_refl _) _
          have HK8 := hide ((unhide HK6).below (unhide HB8))
          have HN8 := hide ((unhide HMN).below (unhide HB8))
          clear HB7 HS7 HE8 HX7 HMN HK6 HB8
          have HC8 := hide ((nKid m bb key W8 (unhide HN8)).mono (fun e w' hh => And.intro (hh.1 (unhide HRF)) hh.2.2))
          rw [unhide HVV bb] at HC8
          refine (unhide HC8).mono ?_
          rintro e W9 ⟨rfl, hb9⟩
          rw [unhide HKP]
          have HK9 := hide ((unhide HK8).below hb9)
          have HN9 := hide ((unhide HN8).below hb9)
          have HX9 := hide (box_below (unhide HX8) hb9)
          clear hb9 HC8 HK8 HN8 HX8 z0 z1 z2 z3
          obtain ⟨y0, y1, y2, y3⟩ := box4 (unhide HK9).2
          obtain ⟨z0, z1, z2, z3⟩ := box4 (unhide HX9)
          have hik : k < m.keys.length := by rw [unhide HLK]; omega
          have hig : k + 1 < m.kids.length := by rw [unhide HLG, unhide HGN, unhide HGK, ← unhide HKN]; omega
          obtain ⟨g1, o1, ha1, hc1⟩ := (unhide HN9).keys.ky hik
          obtain ⟨g2, o2, ha2, hc2⟩ := (unhide HN9).kids.kd hig
          rw [unhide HATK hik] at hc1
          rw [unhide HATG hig] at hc2
          have hx1 := ixStrs g1 o1 (j + 1) bb.kc k (by omega)
          have hx2 := ixKids g2 o2 (gn + 1) bb.gc (k + 1) (by rw [← unhide HLG]; exact hig)
          obtain ⟨k1, hk1e⟩ : ∃ k1, k1 = k + 1 := ⟨_, rfl⟩
          obtain ⟨gn1, hgn1⟩ : ∃ gn1, gn1 = gn + 1 := ⟨_, rfl⟩
          obtain ⟨hw1, hw2⟩ := wrap_succ (k := k) (k1 := k1) (by omega) hk1e
          obtain ⟨hw3, hw4⟩ := wrap_succ (k := gn) (k1 := gn1) hgnl hgn1
          rw [← hk1e] at hc2 hx2 ⊢
          rw [← hgn1] at hx2 z3
          have HMC := hide ((nShrink m bb k W9 (unhide HN9) (unhide HRF) hik))
          rw [unhide HVV bb, unhide HSH, ha1, ha2, ← hgn1] at HMC
          rw [ha1] at z2
          rw [ha2] at z3
          generalize o2 + k1 = q2 at *
          generalize o1 + k = q1 at *
          clear hik hig ha1 ha2 hk1e hgn1
          go_wp2_with fail
          refine (unhide HMC).mono ?_
          rintro e W10 ⟨b2, rfl, hnd10, hb10⟩
          have HK10 := hide ((unhide HK9).below hb10)
          have HND10 := hide hnd10
          rw [unhide H3b b2]
          clear hb10 hnd10 HMC HK9 HN9 HX9 y0 y1 y2 y3 z0 z1 z2 z3 hc1 hc2 hx1 hx2
          obtain ⟨M2, hM2⟩ : ∃ M2, M2 = W10.heap.size := ⟨_, rfl⟩
          have HM2 := hide hM2
          have HNM2 : Hid (N ≤ M2) := by rw [show M2 = W10.heap.size from hM2]; exact Nat.le_of_lt (Array.getElem?_eq_some_iff.1 (unhide HK10).2).1
          clear hM2
          go_wp2_with (first
            | ((with_reducible refine wpList_alloc_node (by rfl) (by rfl) (some 11) (by rfl) M2 (unhide HM2) ?_); intro W11 HX11 HB11 HS11; simp only [Act.put, List.setIfInBounds_toArray, List.set_cons_zero, List.set_cons_succ])
            | ((with_reducible refine wpList_store_node (by rfl) (.tmp 11) (.tmp 118) (by rfl) M2 false b2.ca cn b2.cc b2.ka j b2.kc b2.ga gn b2.gc (by with_unfolding_all rfl) (by with_unfolding_all rfl) (unhide HX11) ?_); intro W12 HX12 HE12; simp only [Act.put]; obtain ⟨z0, z1, z2, z3⟩ := box4 (unhide HX12); have HB12 : Hid (Below W10.heap.size W10 W12) := (by rw [unhide HE12, ← unhide HM2]; exact belowRow (unhide HB11) (Nat.le_refl _) _); have HK12 := hide ((unhide HK10).below (unhide HB12)); have HN12 := hide ((unhide HND10).below (unhide HB12)); obtain ⟨y0, y1, y2, y3⟩ := box4 (unhide HK12).2)
            | fail)
          have HNA : Hid (NdAt W12 n ⟨ca, cc, ka, kc, ga, gc⟩) := (unhide HN0).below (by rw [← unhide HN]; exact (unhide HK12).1)
          have HC12 := hide (rSame n b2 ⟨ca, cc, ka, kc, ga, gc⟩ W12 (unhide HN12) (unhide HNA))
          rw [unhide H3b b2, unhide H3b ⟨ca, cc, ka, kc, ga, gc⟩] at HC12
          refine (unhide HC12).mono ?_
          rintro e W13 ⟨rfl, hb13⟩
          have HK13 := hide ((unhide HK12).below hb13)
          clear hb13
          go_wp2
          go_ret
          exact ⟨rfl, (unhide HK13).1⟩
        · have h8 : (n.grow k key kid).check = 81 ∨ (n.grow k key kid).check = 82 := (Nd.check_not80 (unhide HKG)).resolve_left hm1
          generalize (n.grow k key kid).check = E at *
          clear hm1 HKG
          unfold zeroV
          rcases h8 with rfl | rfl
          all_goals
            go_wp2_with (first
              | ((with_reducible refine wpList_alloc_node (by rfl) (by rfl) (some 9) (by rfl) M (unhide HM) ?_); intro W7 HX7 HB7 HS7; simp only [Act.put, List.setIfInBounds_toArray, List.set_cons_zero, List.set_cons_succ])
              | ((with_reducible refine wpList_store_node (by rfl) (.tmp 9) (.tmp 65) (by rfl) M false none 0 0 none 0 0 none 0 0 (by with_unfolding_all rfl) (by with_unfolding_all rfl) (unhide HX7) ?_); intro W8 HX8 HE8; simp only [Act.put])
              | fail)
            have HZ : Hid (Below N u W8) := by
              rw [unhide HE8]
              exact belowRow ((unhide HK6).1.trans ((unhide HB7).mono (unhide HNM))) (unhide HNM) _
            go_wp2
            go_ret
            exact ⟨rfl, unhide HZ⟩
      · have hbad : ¬ keyOk key ∨ kid = 0 := by
          by_cases hx : keyOk key
          · exact .inr (Classical.not_not.1 fun hq => hgood ⟨hx, hq⟩)
          · exact .inl hx
        have HC5 := hide (unhide HGB hbad W5 b5 (unhide HND5))
        rw [unhide H3b b5] at HC5
        clear hgood hbad
        go_wp2_with fail
        refine (unhide HC5).mono ?_
        rintro e W6 ⟨rfl, hb6⟩
        have HK6 := hide ((unhide HK5).below hb6)
        clear hb6 HC5 HK5 HND5
        obtain ⟨M, hM⟩ : ∃ M, M = W6.heap.size := ⟨_, rfl⟩
        have HM := hide hM
        have HNM : Hid (N ≤ M) := by rw [show M = W6.heap.size from hM]; exact Nat.le_of_lt (Array.getElem?_eq_some_iff.1 (unhide HK6).2).1
        clear hM
        unfold zeroV
        go_wp2_with (first
          | ((with_reducible refine wpList_alloc_node (by rfl) (by rfl) (some 9) (by rfl) M (unhide HM) ?_); intro W7 HX7 HB7 HS7; simp only [Act.put, List.setIfInBounds_toArray, List.set_cons_zero, List.set_cons_succ])
          | ((with_reducible refine wpList_store_node (by rfl) (.tmp 9) (.tmp 65) (by rfl) M false none 0 0 none 0 0 none 0 0 (by with_unfolding_all rfl) (by with_unfolding_all rfl) (unhide HX7) ?_); intro W8 HX8 HE8; simp only [Act.put])
          | fail)
        have HZ : Hid (Below N u W8) := by
          rw [unhide HE8]
          exact belowRow ((unhide HK6).1.trans ((unhide HB7).mono (unhide HNM))) (unhide HNM) _
        go_wp2
        go_ret
        exact ⟨rfl, unhide HZ⟩
theorem kids8_walk (n : Nd) (a : Nv) (key : ByteArray) (kid : Nat) (u : World) (h : NdAt u n a) (hn : a.Nil) (hb : n.cells.length ≤ 4398046511104 ∧ n.keys.length ≤ 8796093022208 ∧ n.kids.length ≤ 35184372088832) (hkl : kid < 4294967296) :
    Calls Try.prog 14 #[a.v n, .string key, .int .u32 (kid : Int)] u fun e u' => e = .returned (.bool true) ∧ Below u.heap.size u u' := by
  by_cases hr : n.refused false = 0
  · exact kids8_yes n a key kid u h hn hb hr hkl
  · exact kids8_no n a key kid u h hn hb hr
theorem kids8_walkI (n : Nd) (a : Nv) (key : ByteArray) (kid : Int) (u : World) (h : NdAt u n a) (hn : a.Nil) (hb : n.cells.length ≤ 4398046511104 ∧ n.keys.length ≤ 8796093022208 ∧ n.kids.length ≤ 35184372088832) (h0 : 0 ≤ kid) (hkl : kid < 4294967296) :
    Calls Try.prog 14 #[a.v n, .string key, .int .u32 kid] u fun e u' => e = .returned (.bool true) ∧ Below u.heap.size u u' := by
  obtain ⟨k, rfl⟩ := Int.eq_ofNat_of_zero_le h0
  exact kids8_walk n a key k u h hn hb (by omega)
end Go.Proofs.Ytomikhodcgbhkaa
