/- Sketches: the item of an entry, of the document; the walk of Items. Written by mkskn.py. -/
import Derived.Test.YtopabadnbelegaaQSkm
import Derived.Deep.DeepCutAuto
namespace Go.Proofs.Ytopabadnbelegaa.K
open Go.RowKit Go.Lib
open Go.Proofs.Ytopabadnbelegaa.S (En plN plN_lt textB)
theorem entTX : ∀ args (w : World), (callFunc 38 args).run Try.prog w = .ok (.enter 38 args) w := by
  intro args w
  go_simp
theorem entOF : ∀ args (w : World), (callFunc 37 args).run Try.prog w = .ok (.enter 37 args) w := by
  intro args w
  go_simp
theorem cat_run (a b : ByteArray) (h : a.size + b.size ≤ 1099511627776) (w : World) : (Op.stringOp .add a b).run Try.prog w = .ok (.string (a ++ b)) w := by
  unfold Op.stringOp
  simp
  omega
/-- what the document makes of six bytes, one behind the other -/
def accN (p : Nat) (l : List UInt8) : Nat := l.foldl (fun v b => v * 256 + b.toNat) p
theorem accN_eq (p : Nat) (l : List UInt8) : accN p l = p * 256 ^ l.length + W.numB l := by
  unfold accN W.numB
  induction l generalizing p with
  | nil => simp
  | cons b l ih =>
    rw [List.foldl_cons, List.foldl_cons, ih (p * 256 + b.toNat), ih (0 * 256 + b.toNat), List.length_cons, Nat.pow_succ]
    rw [Nat.add_mul, Nat.zero_mul, Nat.zero_add, Nat.mul_assoc, Nat.mul_comm 256, Nat.add_assoc]
set_option maxRecDepth 100000 in
set_option maxHeartbeats 4000000 in
theorem qItem (x : En) (h1 : x.1.size ≤ 1048576) (h2 : x.2.size ≤ 1048576) (u : World) : Calls Try.prog 15 #[.agg #[.string x.1, .string x.2]] u fun e u' => e = .returned (.int .u64 (itemN x : Int)) ∧ Below u.heap.size u u' := by
  obtain ⟨k, s⟩ := x
  replace h1 : k.size ≤ 1048576 := h1
  replace h2 : s.size ≤ 1048576 := h2
  have hmix : Try.prog.follows .mixedOrders = true := by kernel_rfl
  have hl1 := textB_len k h1
  have hl2 := textB_len s h2
  have hz1 : (⟨(textB k).toArray⟩ : ByteArray).size = (textB k).length := List.size_toArray
  have hz2 : (⟨(textB s).toArray⟩ : ByteArray).size = (textB s).length := List.size_toArray
  have hz0 : (⟨#[75]⟩ : ByteArray).size = 1 := rfl
  have hz3 : (⟨#[73]⟩ : ByteArray).size = 1 := rfl
  obtain ⟨T0, hT0⟩ : ∃ T : ByteArray, T = ⟨#[75]⟩ ++ k := ⟨_, rfl⟩
  obtain ⟨T1, hT1⟩ : ∃ T : ByteArray, T = ⟨#[73]⟩ ++ (⟨(textB k).toArray⟩ : ByteArray) := ⟨_, rfl⟩
  obtain ⟨T2, hT2⟩ : ∃ T : ByteArray, T = T1 ++ (⟨(textB s).toArray⟩ : ByteArray) := ⟨_, rfl⟩
  have s0 : T0.size = 1 + k.size := by rw [hT0, ByteArray.size_append, hz0]
  have s1 : T1.size = 1 + (textB k).length := by rw [hT1, ByteArray.size_append, hz3, hz1]
  have s2 : T2.size = 1 + (textB k).length + (textB s).length := by rw [hT2, ByteArray.size_append, s1, hz2]
  have hcat : ∀ w : World, (Op.stringOp .add (⟨#[75]⟩ : ByteArray) k).run Try.prog w = .ok (.string T0) w := fun w => by rw [hT0]; exact cat_run _ _ (by omega) w
  have HC1 : Hid (∀ w : World, (Op.stringOp .add (⟨#[73]⟩ : ByteArray) ⟨(textB k).toArray⟩).run Try.prog w = .ok (.string T1) w) := fun w => by rw [hT1]; exact cat_run _ _ (by omega) w
  have HC2 : Hid (∀ w : World, (Op.stringOp .add T1 ⟨(textB s).toArray⟩).run Try.prog w = .ok (.string T2) w) := fun w => by rw [hT2]; exact cat_run _ _ (by omega) w
  have hd0 : T0.data.toList = 75 :: k.data.toList := by
    rw [hT0, ByteArray.data_append, Array.toList_append]
    rfl
  have hd2 : T2.data.toList = 73 :: (textB k ++ textB s) := by
    rw [hT2, hT1, ByteArray.data_append, ByteArray.data_append, Array.toList_append, Array.toList_append]
    rfl
  have HO0 := hide (fun w => D.mOf T0 (by omega) w)
  have HOF : Hid (∀ w, _) := fun w => D.mOf T2 (by omega) w
  have HTK : Hid (∀ w, Calls Try.prog 38 #[.string k] w fun e w' => e = .returned (.string ⟨(textB k).toArray⟩) ∧ Below w.heap.size w w') := fun w => W.mwText k w h1
  have HTS : Hid (∀ w, Calls Try.prog 38 #[.string s] w fun e w' => e = .returned (.string ⟨(textB s).toArray⟩) ∧ Below w.heap.size w w') := fun w => W.mwText s w h2
  have ha := ((D.Sha.of T0.data.toList).getD 0 0).toNat_lt
  have hb := ((D.Sha.of T0.data.toList).getD 1 0).toNat_lt
  have hpl : plN k = ((D.Sha.of T0.data.toList).getD 0 0).toNat * 16 + ((D.Sha.of T0.data.toList).getD 1 0).toNat / 16 := by rw [hd0]; rfl
  have hpk := plN_lt k
  have hx0 := S.ofCells_at T0.data.toList 0 (by decide)
  have hx1 := S.ofCells_at T0.data.toList 1 (by decide)
  have hxs : ∀ i, i < 6 → (D.ofCells T2.data.toList)[i]? = some (.int .u8 (((D.Sha.of T2.data.toList).getD i 0).toNat : Int)) := fun i hi => S.ofCells_at T2.data.toList i (by omega)
  obtain ⟨r, hr⟩ : ∃ r, r = itemN (k, s) := ⟨_, rfl⟩
  have hr2 : r = plN k * 281474976710656 + W.numB ((D.Sha.of T2.data.toList).take 6) := by rw [hr, hd2]; rfl
  have hln := D.Sha.of_length T2.data.toList
  rw [← hr]
  generalize D.Sha.of T2.data.toList = ds at *
  generalize plN k = p at *
  generalize ((D.Sha.of T0.data.toList).getD 0 0).toNat = d0 at *
  generalize ((D.Sha.of T0.data.toList).getD 1 0).toNat = d1 at *
  obtain ⟨CC, hCC⟩ : ∃ CC, CC = D.ofCells T0.data.toList := ⟨_, rfl⟩
  obtain ⟨TT, hTT⟩ : ∃ TT, TT = T2.data.toList := ⟨_, rfl⟩
  rw [← hTT] at hxs HOF
  have HZS : Hid (D.Z32.size = (D.ofCells TT).size) := by show _ = _; rw [D.ofCells_size]; rfl
  have HZC : Hid (D.Z32.size = CC.size) := by show _ = _; rw [hCC, D.ofCells_size]; rfl
  have HIC : Hid ((Try.prog.info? 71).map (·.size) = some CC.size) := by show _ = _; rw [hCC]; exact D.ofCells_info _
  have HON : Hid (CC.all (·.oneCell') = true) := by show _ = _; rw [hCC]; exact D.ofCells_one _
  rw [← hCC] at hx0 hx1 HO0
  have HX0 := hide hx0
  have HX1 := hide hx1
  have HXS := hide hxs
  have HR2 := hide hr2
  have HLN := hide hln
  have hpd : (d0 : Int) * 16 + (d1 : Int) / 16 = (p : Int) := by omega
  have HPK := hide hpk
  have HBX0 := hide (heap_alloc_new u (.cells #[.string k, .string s] 36))
  have HB0 := hide ((Below.refl u.heap.size u).alloc (Nat.le_refl _) (.cells #[.string k, .string s] 36))
  have hda : (d0 : Int) < 256 := by omega
  have hdb : (d1 : Int) < 256 := by omega
  clear h1 h2 hl1 hl2 hz0 hz1 hz2 hz3 s0 s1 s2 hd0 hd2 hpl hx0 hx1 hxs hr hr2 hln hCC hTT hT0 hT1 hT2 hpk ha hb
  go_enter Try.func15, Try.ntmps15
  go_upto_region 2 with (first
    | (go_at_call 37; refine (unhide HO0 _).mono ?_; rintro e W1 ⟨rfl, hb⟩; have HB1 := hide ((unhide HB0).trans (hb.mono (unhide HB0).size)); have HE1 := hide (S.box_below (unhide HBX0) hb); obtain ⟨M, hM⟩ : ∃ M, M = W1.heap.size := ⟨_, rfl⟩; have HM := hide hM; clear hb hM HO0)
    | ((with_reducible refine S.wpList_alloc_row (by rfl) _ (by rfl) (some 3) (by rfl) M (unhide HM).symm _ D.zeroS ?_); intro W2 HX2 HB2 HS2; simp only [Act.put, List.setIfInBounds_toArray, List.set_cons_zero, List.set_cons_succ])
    | ((with_reducible refine S.wpList_store_hid (by rfl) _ (.tmp 3) (.tmp 10) (by rfl) M _ (by with_unfolding_all rfl) (by with_unfolding_all rfl) _ _ (unhide HX2) (unhide HIC) (unhide HZC) (unhide HON) ?_); intro W3 HX3 HE3; simp only [Act.put])
    | fail)
  have hB3 : Below u.heap.size u W3 := by
    have h1 := unhide HB1
    have h2 := unhide HB2
    rw [unhide HM] at h2
    rw [unhide HE3]
    exact S.belowRow (h1.trans (h2.mono h1.size)) (by rw [unhide HM]; exact h1.size) _
  have HB3 := hide hB3
  have HE4 : Hid (W3.heap[u.heap.size]? = some (.cells #[.string k, .string s] 36 (0, 0))) := by
    show _ = _
    rw [unhide HE3, S.heapRow_other _ _ _ _ (by rw [unhide HM]; have := (Array.getElem?_eq_some_iff.1 (unhide HE1)).1; omega)]
    exact S.box_below (unhide HE1) (by have h2 := unhide HB2; rw [unhide HM] at h2; exact h2)
  clear hB3 HX2 HB2 HS2 HE3 HB1 HE1 HM HB0 HBX0 hcat
  generalize W3 = W0 at *
  go_cut [4] (fun s4 wx => ∃ q, s4 = .pointer (some ⟨q, 0, none⟩) ∧ Hid (wx.heap[q]? = some (.cells (D.ofCells TT) 71 (0, 0))) ∧ Hid (Below W0.drew.heap.size W0.drew wx))
  case first =>
    refine wp_region_last (fun G => Below W0.drew.heap.size W0.drew G) 10 hmix (Below.refl _ _) fun hS => ?_
    have HBX : Hid (∀ G : World, Below W0.drew.heap.size W0.drew G → G.cell? ⟨u.heap.size, 0, none⟩ = some (.string k) ∧ G.cell? ⟨u.heap.size, 1, none⟩ = some (.string s)) := fun G hG => S.box2 (S.box_below (show W0.drew.heap[u.heap.size]? = _ from unhide HE4) hG)
    generalize W0.drew = X at *
    generalize u.heap.size = N at *
    refine wpAnyL_take 0 11 (.pointer (some ⟨N, 0, none⟩)) [] rfl rfl (by kernel_rfl) (by kernel_rfl) (by kernel_rfl) (by kernel_rfl) (by kernel_rfl) (fun _ _ _ h => h) (by rfl) (fun _ _ => by go_simp) hS ?_
    simp only [Act.put, List.setIfInBounds_toArray, List.set_cons_zero, List.set_cons_succ]
    refine wpAnyL_take 1 12 (.string k) [] rfl rfl (by kernel_rfl) (by kernel_rfl) (by kernel_rfl) (by kernel_rfl) (by kernel_rfl) (fun _ _ _ h => h) (by rfl) (fun G hG => by obtain ⟨c0, c1⟩ := unhide HBX G hG; go_simp) hS ?_
    simp only [Act.put, List.setIfInBounds_toArray, List.set_cons_zero, List.set_cons_succ]
    refine wpAnyL_take 4 15 (.pointer (some ⟨N, 1, none⟩)) [] rfl rfl (by kernel_rfl) (by kernel_rfl) (by kernel_rfl) (by kernel_rfl) (by kernel_rfl) (fun _ _ _ h => h) (by rfl) (fun _ _ => by go_simp) hS ?_
    simp only [Act.put, List.setIfInBounds_toArray, List.set_cons_zero, List.set_cons_succ]
    refine wpAnyL_take 5 16 (.string s) [] rfl rfl (by kernel_rfl) (by kernel_rfl) (by kernel_rfl) (by kernel_rfl) (by kernel_rfl) (fun _ _ _ h => h) (by rfl) (fun G hG => by obtain ⟨c0, c1⟩ := unhide HBX G hG; go_simp) hS ?_
    simp only [Act.put, List.setIfInBounds_toArray, List.set_cons_zero, List.set_cons_succ]
    have HS0 := hide hS
    refine wpAnyL_two (i := 2) (j := 9) (by kernel_rfl) rfl rfl (by rfl) (by rfl) (fun K hK => ?_) (fun K hK => ?_)
    · refine S.wp_call_fn 38 _ _ (by rfl) #[.string k] (by with_unfolding_all rfl) entTX (some 13) (by rfl) _ (asC (unhide HTK X)) ?_
      rintro _ X1 ⟨rfl, hb⟩
      have HS1 : Hid (Below X.heap.size X X1) := (unhide HS0).trans (hb.mono (unhide HS0).size)
      clear hb
      refine hK _ _ (fun _ => unhide HS1) ?_
      clear hK K
      simp only [Act.put, List.setIfInBounds_toArray, List.set_cons_zero, List.set_cons_succ]
      refine wpAnyL_take 3 14 (.string T1) [] rfl rfl (by kernel_rfl) (by kernel_rfl) (by kernel_rfl) (by kernel_rfl) (by kernel_rfl) (fun _ _ _ h => h) (by rfl) (fun W _ => by have hq := unhide HC1 W; go_simp) (unhide HS1) ?_
      simp only [Act.put, List.setIfInBounds_toArray, List.set_cons_zero, List.set_cons_succ]
      refine wpAnyL_two (i := 6) (j := 9) (by kernel_rfl) rfl rfl (by rfl) (by rfl) (fun K hK => ?_) (fun K hK => ?_)
      · refine S.wp_call_fn 38 _ _ (by rfl) #[.string s] (by with_unfolding_all rfl) entTX (some 17) (by rfl) _ (asC (unhide HTS X1)) ?_
        rintro _ X2 ⟨rfl, hb⟩
        have HS2 : Hid (Below X.heap.size X X2) := (unhide HS1).trans (hb.mono (unhide HS1).size)
        clear hb
        refine hK _ _ (fun _ => unhide HS2) ?_
        clear hK K
        simp only [Act.put, List.setIfInBounds_toArray, List.set_cons_zero, List.set_cons_succ]
        refine wpAnyL_take 7 18 (.string T2) [] rfl rfl (by kernel_rfl) (by kernel_rfl) (by kernel_rfl) (by kernel_rfl) (by kernel_rfl) (fun _ _ _ h => h) (by rfl) (fun W _ => by have hq := unhide HC2 W; go_simp) (unhide HS2) ?_
        simp only [Act.put, List.setIfInBounds_toArray, List.set_cons_zero, List.set_cons_succ]
        refine wpAnyL_two (i := 8) (j := 9) (by kernel_rfl) rfl rfl (by rfl) (by rfl) (fun K hK => ?_) (fun K hK => ?_)
        · refine S.wp_call_fn 37 _ _ (by rfl) #[.string T2] (by with_unfolding_all rfl) entOF (some 19) (by rfl) _ (asC (unhide HOF X2)) ?_
          rintro _ X3 ⟨rfl, hb⟩
          have HS3 : Hid (Below X.heap.size X X3) := (unhide HS2).trans (hb.mono (unhide HS2).size)
          clear hb
          refine hK _ _ (fun _ => unhide HS3) ?_
          clear hK K
          simp only [Act.put, List.setIfInBounds_toArray, List.set_cons_zero, List.set_cons_succ]
          refine wpAnyL_one (i := 9) (by kernel_rfl) rfl (by rfl) fun K hK => ?_
          obtain ⟨q, hq⟩ : ∃ q, q = X3.heap.size := ⟨_, rfl⟩
          refine S.wp_alloc_row 71 (by rfl) (some 4) (by rfl) q hq _ D.zeroS ?_
          intro X4 HA4 hb4 hs4
          have HQ : Hid (X.heap.size ≤ q) := by rw [hq]; exact (unhide HS3).size
          have HS4 : Hid (Below X.heap.size X X4) := (unhide HS3).trans ((unhide hb4).mono (by rw [hq]; exact (unhide HS3).size))
          clear hb4 hs4 hq
          refine hK _ _ (fun _ => unhide HS4) ?_
          clear hK K
          simp only [Act.put, List.setIfInBounds_toArray, List.set_cons_zero, List.set_cons_succ]
          refine wpAnyL_one (i := 10) (by kernel_rfl) rfl (by rfl) fun K hK => ?_
          refine S.wp_store_agg 71 _ _ (by rfl) (by rfl) q (D.ofCells TT) (by with_unfolding_all rfl) (by with_unfolding_all rfl) _ _ (unhide HA4) (D.ofCells_info _) (unhide HZS) (D.ofCells_one _) ?_
          intro X9 HST
          refine hK _ _ (fun h => absurd rfl h) ?_
          clear hK K
          refine wpAnyL_done (by kernel_rfl) ?_ _
          have HB9 : Hid (Below X.heap.size X X9) := (unhide HST).below (unhide HS4) (unhide HQ)
          have HQ9 := hide (unhide HST).new
          clear HST HQ
          go_wp2_with fail
          go_meet
          exact ⟨q, rfl, unhide HQ9, unhide HB9⟩
        · obtain ⟨q, hq⟩ : ∃ q, q = X2.heap.size := ⟨_, rfl⟩
          refine S.wp_alloc_row 71 (by rfl) (some 4) (by rfl) q hq _ D.zeroS ?_
          intro X3 HA3 hb4 hs4
          have HQ : Hid (X.heap.size ≤ q) := by rw [hq]; exact (unhide HS2).size
          have HS3 : Hid (Below X.heap.size X X3) := (unhide HS2).trans ((unhide hb4).mono (by rw [hq]; exact (unhide HS2).size))
          clear hb4 hs4 hq
          refine hK _ _ (fun _ => unhide HS3) ?_
          clear hK K
          simp only [Act.put, List.setIfInBounds_toArray, List.set_cons_zero, List.set_cons_succ]
          refine wpAnyL_one (i := 8) (by kernel_rfl) rfl (by rfl) fun K hK => ?_
          refine S.wp_call_fn 37 _ _ (by rfl) #[.string T2] (by with_unfolding_all rfl) entOF (some 19) (by rfl) _ (asC (unhide HOF X3)) ?_
          rintro _ X4 ⟨rfl, hb⟩
          have HS4 : Hid (Below X.heap.size X X4) := (unhide HS3).trans (hb.mono (unhide HS3).size)
          have HA4 := hide (S.box_below (unhide HA3) hb)
          clear hb
          refine hK _ _ (fun _ => unhide HS4) ?_
          clear hK K
          simp only [Act.put, List.setIfInBounds_toArray, List.set_cons_zero, List.set_cons_succ]
          refine wpAnyL_one (i := 10) (by kernel_rfl) rfl (by rfl) fun K hK => ?_
          refine S.wp_store_agg 71 _ _ (by rfl) (by rfl) q (D.ofCells TT) (by with_unfolding_all rfl) (by with_unfolding_all rfl) _ _ (unhide HA4) (D.ofCells_info _) (unhide HZS) (D.ofCells_one _) ?_
          intro X9 HST
          refine hK _ _ (fun h => absurd rfl h) ?_
          clear hK K
          refine wpAnyL_done (by kernel_rfl) ?_ _
          have HB9 : Hid (Below X.heap.size X X9) := (unhide HST).below (unhide HS4) (unhide HQ)
          have HQ9 := hide (unhide HST).new
          clear HST HQ
          go_wp2_with fail
          go_meet
          exact ⟨q, rfl, unhide HQ9, unhide HB9⟩
      · obtain ⟨q, hq⟩ : ∃ q, q = X1.heap.size := ⟨_, rfl⟩
        refine S.wp_alloc_row 71 (by rfl) (some 4) (by rfl) q hq _ D.zeroS ?_
        intro X2 HA2 hb4 hs4
        have HQ : Hid (X.heap.size ≤ q) := by rw [hq]; exact (unhide HS1).size
        have HS2 : Hid (Below X.heap.size X X2) := (unhide HS1).trans ((unhide hb4).mono (by rw [hq]; exact (unhide HS1).size))
        clear hb4 hs4 hq
        refine hK _ _ (fun _ => unhide HS2) ?_
        clear hK K
        simp only [Act.put, List.setIfInBounds_toArray, List.set_cons_zero, List.set_cons_succ]
        refine wpAnyL_one (i := 6) (by kernel_rfl) rfl (by rfl) fun K hK => ?_
        refine S.wp_call_fn 38 _ _ (by rfl) #[.string s] (by with_unfolding_all rfl) entTX (some 17) (by rfl) _ (asC (unhide HTS X2)) ?_
        rintro _ X3 ⟨rfl, hb⟩
        have HS3 : Hid (Below X.heap.size X X3) := (unhide HS2).trans (hb.mono (unhide HS2).size)
        have HA3 := hide (S.box_below (unhide HA2) hb)
        clear hb
        refine hK _ _ (fun _ => unhide HS3) ?_
        clear hK K
        simp only [Act.put, List.setIfInBounds_toArray, List.set_cons_zero, List.set_cons_succ]
        refine wpAnyL_take 7 18 (.string T2) [] rfl rfl (by kernel_rfl) (by kernel_rfl) (by kernel_rfl) (by kernel_rfl) (by kernel_rfl) (fun _ _ _ h => h) (by rfl) (fun W _ => by have hq := unhide HC2 W; go_simp) (unhide HS3) ?_
        simp only [Act.put, List.setIfInBounds_toArray, List.set_cons_zero, List.set_cons_succ]
        refine wpAnyL_one (i := 8) (by kernel_rfl) rfl (by rfl) fun K hK => ?_
        refine S.wp_call_fn 37 _ _ (by rfl) #[.string T2] (by with_unfolding_all rfl) entOF (some 19) (by rfl) _ (asC (unhide HOF X3)) ?_
        rintro _ X4 ⟨rfl, hb⟩
        have HS4 : Hid (Below X.heap.size X X4) := (unhide HS3).trans (hb.mono (unhide HS3).size)
        have HA4 := hide (S.box_below (unhide HA3) hb)
        clear hb
        refine hK _ _ (fun _ => unhide HS4) ?_
        clear hK K
        simp only [Act.put, List.setIfInBounds_toArray, List.set_cons_zero, List.set_cons_succ]
        refine wpAnyL_one (i := 10) (by kernel_rfl) rfl (by rfl) fun K hK => ?_
        refine S.wp_store_agg 71 _ _ (by rfl) (by rfl) q (D.ofCells TT) (by with_unfolding_all rfl) (by with_unfolding_all rfl) _ _ (unhide HA4) (D.ofCells_info _) (unhide HZS) (D.ofCells_one _) ?_
        intro X9 HST
        refine hK _ _ (fun h => absurd rfl h) ?_
        clear hK K
        refine wpAnyL_done (by kernel_rfl) ?_ _
        have HB9 : Hid (Below X.heap.size X X9) := (unhide HST).below (unhide HS4) (unhide HQ)
        have HQ9 := hide (unhide HST).new
        clear HST HQ
        go_wp2_with fail
        go_meet
        exact ⟨q, rfl, unhide HQ9, unhide HB9⟩
    · obtain ⟨q, hq⟩ : ∃ q, q = X.heap.size := ⟨_, rfl⟩
      refine S.wp_alloc_row 71 (by rfl) (some 4) (by rfl) q hq _ D.zeroS ?_
      intro X1 HA1 hb4 hs4
      have HQ : Hid (X.heap.size ≤ q) := by rw [hq]; exact (unhide HS0).size
      have HS1 : Hid (Below X.heap.size X X1) := (unhide HS0).trans ((unhide hb4).mono (by rw [hq]; exact (unhide HS0).size))
      clear hb4 hs4 hq
      refine hK _ _ (fun _ => unhide HS1) ?_
      clear hK K
      simp only [Act.put, List.setIfInBounds_toArray, List.set_cons_zero, List.set_cons_succ]
      refine wpAnyL_one (i := 2) (by kernel_rfl) rfl (by rfl) fun K hK => ?_
      refine S.wp_call_fn 38 _ _ (by rfl) #[.string k] (by with_unfolding_all rfl) entTX (some 13) (by rfl) _ (asC (unhide HTK X1)) ?_
      rintro _ X2 ⟨rfl, hb⟩
      have HS2 : Hid (Below X.heap.size X X2) := (unhide HS1).trans (hb.mono (unhide HS1).size)
      have HA2 := hide (S.box_below (unhide HA1) hb)
      clear hb
      refine hK _ _ (fun _ => unhide HS2) ?_
      clear hK K
      simp only [Act.put, List.setIfInBounds_toArray, List.set_cons_zero, List.set_cons_succ]
      refine wpAnyL_take 3 14 (.string T1) [] rfl rfl (by kernel_rfl) (by kernel_rfl) (by kernel_rfl) (by kernel_rfl) (by kernel_rfl) (fun _ _ _ h => h) (by rfl) (fun W _ => by have hq := unhide HC1 W; go_simp) (unhide HS2) ?_
      simp only [Act.put, List.setIfInBounds_toArray, List.set_cons_zero, List.set_cons_succ]
      refine wpAnyL_one (i := 6) (by kernel_rfl) rfl (by rfl) fun K hK => ?_
      refine S.wp_call_fn 38 _ _ (by rfl) #[.string s] (by with_unfolding_all rfl) entTX (some 17) (by rfl) _ (asC (unhide HTS X2)) ?_
      rintro _ X3 ⟨rfl, hb⟩
      have HS3 : Hid (Below X.heap.size X X3) := (unhide HS2).trans (hb.mono (unhide HS2).size)
      have HA3 := hide (S.box_below (unhide HA2) hb)
      clear hb
      refine hK _ _ (fun _ => unhide HS3) ?_
      clear hK K
      simp only [Act.put, List.setIfInBounds_toArray, List.set_cons_zero, List.set_cons_succ]
      refine wpAnyL_take 7 18 (.string T2) [] rfl rfl (by kernel_rfl) (by kernel_rfl) (by kernel_rfl) (by kernel_rfl) (by kernel_rfl) (fun _ _ _ h => h) (by rfl) (fun W _ => by have hq := unhide HC2 W; go_simp) (unhide HS3) ?_
      simp only [Act.put, List.setIfInBounds_toArray, List.set_cons_zero, List.set_cons_succ]
      refine wpAnyL_one (i := 8) (by kernel_rfl) rfl (by rfl) fun K hK => ?_
      refine S.wp_call_fn 37 _ _ (by rfl) #[.string T2] (by with_unfolding_all rfl) entOF (some 19) (by rfl) _ (asC (unhide HOF X3)) ?_
      rintro _ X4 ⟨rfl, hb⟩
      have HS4 : Hid (Below X.heap.size X X4) := (unhide HS3).trans (hb.mono (unhide HS3).size)
      have HA4 := hide (S.box_below (unhide HA3) hb)
      clear hb
      refine hK _ _ (fun _ => unhide HS4) ?_
      clear hK K
      simp only [Act.put, List.setIfInBounds_toArray, List.set_cons_zero, List.set_cons_succ]
      refine wpAnyL_one (i := 10) (by kernel_rfl) rfl (by rfl) fun K hK => ?_
      refine S.wp_store_agg 71 _ _ (by rfl) (by rfl) q (D.ofCells TT) (by with_unfolding_all rfl) (by with_unfolding_all rfl) _ _ (unhide HA4) (D.ofCells_info _) (unhide HZS) (D.ofCells_one _) ?_
      intro X9 HST
      refine hK _ _ (fun h => absurd rfl h) ?_
      clear hK K
      refine wpAnyL_done (by kernel_rfl) ?_ _
      have HB9 : Hid (Below X.heap.size X X9) := (unhide HST).below (unhide HS4) (unhide HQ)
      have HQ9 := hide (unhide HST).new
      clear HST HQ
      go_wp2_with fail
      go_meet
      exact ⟨q, rfl, unhide HQ9, unhide HB9⟩
  case rest =>
    obtain ⟨q, rfl, HQC, HQB⟩ := hcut
    obtain ⟨X0, hW⟩ : ∃ W, W = wc := ⟨_, rfl⟩
    subst hW
    have HBU := hide ((unhide HB3).trans ((S.belowDrew (Below.refl _ _) : Below W0.heap.size W0 W0.drew).mono (unhide HB3).size))
    have HBV : Hid (Below u.heap.size u X0) := (unhide HBU).trans ((unhide HQB).mono (unhide HBU).size)
    have HMC := hide (S.box_below (show W0.drew.heap[M]? = _ from unhide HX3) (unhide HQB))
    have m0 := S.arr_cell (unhide HMC) (unhide HX0)
    have m1 := S.arr_cell (unhide HMC) (unhide HX1)
    clear HX3 HQB HB3 HE4 HBU
    have hw1 : IntKind.u64.wrap (d0 : Int) = (d0 : Int) := by rw [IntKind.wrap_u64]; omega
    have hw2 : IntKind.u64.wrap (d1 : Int) = (d1 : Int) := by rw [IntKind.wrap_u64]; omega
    have hw3 : IntKind.u64.wrap ((d0 : Int) * 16) = (d0 : Int) * 16 := by rw [IntKind.wrap_u64]; omega
    have hw4 : IntKind.u64.wrap ((d0 : Int) * 16 + (d1 : Int) / 16) = (p : Int) := by rw [IntKind.wrap_u64]; have := unhide HPK; omega
    go_wp2
    clear hw1 hw2 hw3 hw4 m0 m1 hpd hda hdb
    go_loopw [5, 6] (fun s5 s6 wr => ∃ (i v : Nat), i ≤ 6 ∧ s5 = .int .u64 (v : Int) ∧ s6 = .int .i64 (i : Int) ∧ wr = X0 ∧ Hid (v = accN p (ds.take i))) (fun _ s6 _ => 6 - (intOf s6).toNat)
    case atStart => exact ⟨0, p, by decide, rfl, rfl, rfl, rfl⟩
    case round =>
      obtain ⟨i, v, hi, rfl, rfl, rfl, HV⟩ := hrel
      by_cases hlt : i < 6
      · have hii : (i : Int) < 6 := by omega
        have hc := S.arr_cell (unhide HQC) (unhide HXS i hlt)
        have hv := unhide HV
        have hlen : (ds.take i).length = i := by rw [List.length_take, unhide HLN]; omega
        have hnb := W.numB_lt (ds.take i)
        rw [accN_eq] at hv
        rw [hlen] at hv hnb
        have hvb : v < 4503599627370496 := by
          have hp := unhide HPK
          have h6 : 256 ^ i ≤ 256 ^ 5 := Nat.pow_le_pow_right (by decide) (by omega)
          have h7 : p * 256 ^ i ≤ 4095 * 256 ^ i := Nat.mul_le_mul_right _ (by omega)
          simp only [Nat.reducePow] at h6
          generalize 256 ^ i = z at *
          omega
        have HNX : Hid (256 * v + (ds.getD i 0).toNat = accN p (ds.take (i + 1))) := by
          show _ = _
          have hd : ds.take (i + 1) = ds.take i ++ [ds.getD i 0] := by
            have hi32 : i < ds.length := by rw [unhide HLN]; omega
            rw [List.take_succ_eq_append_getElem hi32, List.getD_eq_getElem?_getD, List.getElem?_eq_getElem hi32, Option.getD_some]
          rw [hd]
          unfold accN
          rw [List.foldl_append]
          have h1 : v = List.foldl (fun v b => v * 256 + b.toNat) p (ds.take i) := unhide HV
          rw [← h1]
          simp
          omega
        have hbt := (ds.getD i 0).toNat_lt
        generalize (ds.getD i 0).toNat = b at *
        have hw1 : IntKind.u64.wrap (256 * (v : Int)) = 256 * (v : Int) := by rw [IntKind.wrap_u64]; omega
        have hw2 : IntKind.u64.wrap (b : Int) = (b : Int) := by rw [IntKind.wrap_u64]; omega
        have hw3 : IntKind.u64.wrap (256 * (v : Int) + (b : Int)) = ((256 * v + b : Nat) : Int) := by rw [IntKind.wrap_u64]; omega
        have HW3 := hide hw3
        obtain ⟨y, hy⟩ : ∃ y, y = 256 * v + b := ⟨_, rfl⟩
        rw [← hy] at hw3 HNX
        clear hv hlen hnb hvb hbt hy HW3
        go_wp2
        go_roundw
        case rel => exact ⟨i + 1, y, by omega, rfl, by go_num, trivial, HNX⟩
        case measure => simp [intOf]; omega
      · have hki : ¬ (i : Int) < 6 := by omega
        have HI6 : Hid (i = 6) := by show i = 6; omega
        clear hlt hi
        go_wp2
        go_ret
        obtain rfl := unhide HI6
        refine ⟨?_, unhide HBV⟩
        have hlen : (ds.take 6).length = 6 := by rw [List.length_take, unhide HLN]; omega
        have h1 := unhide HV
        rw [accN_eq, hlen] at h1
        simp only [Nat.reducePow] at h1
        rw [unhide HR2, ← h1]
        rfl
end Go.Proofs.Ytopabadnbelegaa.K
