/- ObjectBack: the walk (written by mkos.py). -/
import Derived.Test.YtkcbljmjhlnjpaaQOr
namespace Go.Proofs.Ytkcbljmjhlnjpaa
open Go.RowKit Go.Lib
theorem kUnpack {k z : ByteArray} (hz : z.size ≤ 140737488355328) {u : World} {J : Ot} {r : Int} (hJ : unpV k z = (J, r)) (hs : SOk J.st) (hf : FitT J.st) : Calls Try.prog 19 #[.agg #[.string k, .string z]] u fun e u' => ∃ x a b, e = .returned (.tuple #[obV J.key x a b, .int .i64 r]) ∧ Sx u' J.st x a b ∧ Below u.heap.size u u' := by
  refine (oUnpack k z hz u J r hJ).mono ?_
  rintro e u' ⟨x, a, b, h1, h2, h3, h4, h5⟩
  exact ⟨x, a, b, h1, ⟨h4.at hf hs, h2, h3⟩, h5⟩
theorem sl2 (k : ByteArray) (h : 2 ≤ k.size) (W : World) : (Instr.slice 9 (.string k) (some (.int .i64 2)) none none).run Try.prog W = .ok (.string (k.extract 2 k.size)) W := by
  have h2 : (2 : Int) ≤ (k.size : Int) := by omega
  go_simp
theorem sameKK (o : Ot) : true = (decide (o.key = o.key) && sameB o.st o.st) := by
  rw [decide_eq_true rfl, sameB_iff.2 rfl]; rfl
theorem asV2 {P : Program} {F : FuncId} {args : Array Value} {w : World} {g : Sv → Value} {R : Sv → World → Prop} (h : Calls P F args w fun e w' => ∃ x, e = .returned (g x) ∧ R x w') : Calls P F args w fun e w' => ∃ v, e = .returned v ∧ ∃ x, v = g x ∧ R x w' :=
  h.mono fun _ _ ⟨x, h1, h2⟩ => ⟨_, h1, x, rfl, h2⟩
theorem entLS : ∀ args (w : World), (callFunc 17 args).run Try.prog w = .ok (.enter 17 args) w := by
  intro args w
  go_simp
theorem entLT : ∀ args (w : World), (callFunc 13 args).run Try.prog w = .ok (.enter 13 args) w := by
  intro args w
  go_simp
theorem entOS : ∀ args (w : World), (callFunc 29 args).run Try.prog w = .ok (.enter 29 args) w := by
  intro args w
  go_simp
set_option maxRecDepth 100000 in
set_option maxHeartbeats 16000000 in
theorem back13_walk (o : Ot) (va : Sv) (ck cz : ByteArray) (u : World) (ha : SAt u o.st va) (hcz : cz.size ≤ 140737488355328) : Calls Try.prog 7 #[obV o.key va o.st.seen.length o.st.sibs.length, .agg #[.string ck, .string cz]] u fun e u' => e = .returned (.bool true) ∧ Below u.heap.size u u' := by
  have hmix : Try.prog.follows .mixedOrders = true := by kernel_rfl
  obtain ⟨N, hN⟩ : ∃ N, N = u.heap.size := ⟨_, rfl⟩
  have HN := hide hN
  obtain ⟨na, hna⟩ : ∃ n, n = o.st.seen.length := ⟨_, rfl⟩
  obtain ⟨ma, hma⟩ : ∃ n, n = o.st.sibs.length := ⟨_, rfl⟩
  have HSA : Hid (Sx u o.st va na ma) := ⟨ha, hna, hma⟩
  have HNA := hide hna
  rw [← hna, ← hma, ← hN]
  clear hN hna hma
  have HU : Hid (∀ W : World, Below N u W → Below u.heap.size u W) := fun W hW => by rw [← unhide HN]; exact hW
  have HOF := hide ha.fit
  have HCZ := hide hcz
  have HJ := hide (unp_cases ck cz)
  clear ha hcz
  rcases pack_cases o with ⟨hc, h0, hp⟩ | ⟨hc, h0, hp⟩ | ⟨hc, hp⟩
  · have HUP := hide (unp_pack hc h0 (unhide HOF))
    have HOO := hide (ck_zero.1 hc).2.1
    have HDZ : Hid ((⟨(stB o.st).toArray⟩ : ByteArray).size ≤ 140737488355328) := by
      show (⟨(stB o.st).toArray⟩ : ByteArray).size ≤ 140737488355328
      rw [size_st]
      have := (ck_zero.1 hc).2.2
      omega
    have hz280 : (⟨(stB o.st).toArray⟩ : ByteArray).size ≤ 280 := by rw [size_st]; exact (ck_zero.1 hc).2.2
    have hk32 := (ck_zero.1 hc).1
    have HQA : Hid (∀ W, Calls Try.prog 11 #[.string o.key] W fun e W' => e = .returned (.tuple #[.int .i64 (plN o.key : Int), .int .i64 0]) ∧ Below W.heap.size W W') := fun W => by
      have h := oPlace o.key W
      rw [keyE_zero.2 hk32, if_pos rfl] at h
      exact h
    have hext := cell_ext o.key
    have hsz := cell_size o.key
    have hget := cell_get o.key
    have hpl := plN_lt o.key
    have HPA := hide hp
    generalize (⟨(stB o.st).toArray⟩ : ByteArray) = dz at *
    generalize cellK o.key = dk at *
    generalize plN o.key = p at *
    have hsl : ∀ W : World, (Instr.slice 9 (.string dk) (some (.int .i64 2)) none none).run Try.prog W = .ok (.string o.key) W := fun W => by
      rw [← hext]
      exact sl2 dk (by omega) W
    obtain ⟨ss, hss⟩ : ∃ n : Nat, n = dk.size + dz.size := ⟨_, rfl⟩
    have hw1 : IntKind.i64.wrap ((dk.size : Int) + (dz.size : Int)) = (ss : Int) := by rw [IntKind.wrap_i64]; omega
    have hw2 : IntKind.i64.wrap (2 + (o.key.size : Int)) = (dk.size : Int) := by rw [IntKind.wrap_i64]; omega
    have hss2 : ¬ (ss : Int) > 320 := by omega
    have hss3 : ¬ 320 < ss := by omega
    have hix0 : ∀ W : World, (Instr.index 9 (.string dk) (.int .i64 0)).run Try.prog W = .ok (.int .u8 ((p / 256 : Nat) : Int)) W := fun W => (hget W).1
    have hix1 : ∀ W : World, (Instr.index 9 (.string dk) (.int .i64 1)).run Try.prog W = .ok (.int .u8 ((p % 256 : Nat) : Int)) W := fun W => (hget W).2
    obtain ⟨b0, hb0⟩ : ∃ b, b = p / 256 := ⟨_, rfl⟩
    obtain ⟨b1, hb1⟩ : ∃ b, b = p % 256 := ⟨_, rfl⟩
    rw [← hb0] at hix0
    rw [← hb1] at hix1
    obtain ⟨m0, hm0⟩ : ∃ b, b = b0 * 256 := ⟨_, rfl⟩
    have hb0l : b0 < 256 := by omega
    have hb1l : b1 < 256 := by omega
    have hw3 : IntKind.i64.wrap ((b0 : Int) * 256) = (m0 : Int) := by rw [IntKind.wrap_i64]; omega
    have hw5 : IntKind.i64.wrap (b0 : Int) = (b0 : Int) := by rw [IntKind.wrap_i64]; omega
    have hw6 : IntKind.i64.wrap (b1 : Int) = (b1 : Int) := by rw [IntKind.wrap_i64]; omega
    have hw4 : IntKind.i64.wrap ((m0 : Int) + (b1 : Int)) = (p : Int) := by rw [IntKind.wrap_i64]; omega
    have hp1 : ¬ (p : Int) < 0 := by omega
    have hp2 : ¬ (p : Int) > 4095 := by omega
    have hp3 : ¬ 4095 < p := by omega
    clear hc h0 hp hz280 hk32 hext hsz hget hpl hss hm0 hb0 hb1
    go_enter Try.func7, Try.ntmps7
    go_upto_region 7 with (first
      | ((with_reducible refine wpList_box_ob (by rfl) (.tmp 0) (by rfl) (some 2) (by rfl) N (unhide HN) o.key va na ma (by with_unfolding_all rfl) ?_); intro B1 HY1 HA1 HZ1; simp only [Act.put, List.setIfInBounds_toArray, List.set_cons_zero, List.set_cons_succ])
      | ((with_reducible refine wpList_box_ce (by rfl) (.tmp 1) (by rfl) (some 3) (by rfl) (N + 1) (unhide HZ1).symm ck cz (by with_unfolding_all rfl) ?_); intro B2 HY2 HA2 HZ2; simp only [Act.put, List.setIfInBounds_toArray, List.set_cons_zero, List.set_cons_succ]; have HBU : Hid (Below N u B2) := (unhide HA1).trans ((unhide HA2).mono (by omega)); have HLA : Hid (Lo B2 N o va na ma) := ⟨(unhide HSA).below (unhide HU _ (unhide HBU)), ((unhide HA2).block N (by omega)).trans (unhide HY1)⟩; have HCC := HY2; have HNW : Hid (N ≤ B2.heap.size) := (by show N ≤ B2.heap.size; rw [unhide HZ2]; omega); clear HY1 HY2 HA1 HA2 HZ1 HZ2)
      | (go_at_call 27; refine (lWorks B2).mono ?_; rintro e U1 ⟨rfl, hb⟩; replace HLA := hide ((unhide HLA).below hb); replace HCC := hide (box_below (unhide HCC) hb); replace HBU : Hid (Below N u U1) := (unhide HBU).trans (hb.mono (unhide HNW)); replace HNW : Hid (N ≤ U1.heap.size) := Nat.le_trans (unhide HNW) hb.size; clear hb; obtain ⟨c0A, c1A, c2A⟩ := (unhide HLA).cells; obtain ⟨c0C, c1C⟩ := ce_cells (unhide HCC); )
      | (go_at_call 13; refine (kTwin U1 (unhide HLA).toSx).mono ?_; rintro e U2 ⟨x1, rfl, hs, hb⟩; clear c0A c1A c2A c0C c1C; replace HLA := hide ((unhide HLA).below hb); replace HCC := hide (box_below (unhide HCC) hb); replace HBU : Hid (Below N u U2) := (unhide HBU).trans (hb.mono (unhide HNW)); replace HNW : Hid (N ≤ U2.heap.size) := Nat.le_trans (unhide HNW) hb.size; have HT := hide hs; clear hs; clear hb; obtain ⟨c0A, c1A, c2A⟩ := (unhide HLA).cells; obtain ⟨c0C, c1C⟩ := ce_cells (unhide HCC); )
      | (go_at_call 28; refine (oPack (o := o) (unhide HT) _ _ _ (unhide HPA)).mono ?_; rintro e U3 ⟨rfl, hb⟩; clear c0A c1A c2A c0C c1C; replace HLA := hide ((unhide HLA).below hb); replace HCC := hide (box_below (unhide HCC) hb); replace HT := hide ((unhide HT).below hb); replace HBU : Hid (Below N u U3) := (unhide HBU).trans (hb.mono (unhide HNW)); replace HNW : Hid (N ≤ U3.heap.size) := Nat.le_trans (unhide HNW) hb.size; clear HT HPA; clear hb; obtain ⟨c0A, c1A, c2A⟩ := (unhide HLA).cells; obtain ⟨c0C, c1C⟩ := ce_cells (unhide HCC); )
      | ((with_reducible refine wpList_alloc_ce (by rfl) (by rfl) (some 5) (by rfl) _ rfl ?_); intro U4 HY HA HZ; obtain ⟨KD, hKD⟩ : ∃ k, k = U3.heap.size := ⟨_, rfl⟩; rw [← hKD] at HY HA HZ ⊢; have HEKD := hide hKD; clear hKD; simp only [Act.put, List.setIfInBounds_toArray, List.set_cons_zero, List.set_cons_succ])
      | ((with_reducible refine wpList_store_ce (by rfl) (.tmp 5) (.tmp 21) (by rfl) KD dk dz (by with_unfolding_all rfl) (by with_unfolding_all rfl) _ _ (unhide HY) ?_); intro U5 HYY HEE; simp only [Act.put]; have hb : Below U3.heap.size U3 U5 := (by rw [unhide HEE, ← unhide HEKD]; exact belowRow (unhide HA) (Nat.le_refl _) _); clear c0A c1A c2A c0C c1C; replace HLA := hide ((unhide HLA).below hb); replace HCC := hide (box_below (unhide HCC) hb); replace HBU : Hid (Below N u U5) := (unhide HBU).trans (hb.mono (unhide HNW)); replace HNW : Hid (N ≤ U5.heap.size) := Nat.le_trans (unhide HNW) hb.size; have HCD := HYY; clear hb HY HA HZ HYY HEE HEKD; obtain ⟨c0A, c1A, c2A⟩ := (unhide HLA).cells; obtain ⟨c0C, c1C⟩ := ce_cells (unhide HCC); obtain ⟨c0D, c1D⟩ := ce_cells (unhide HCD); )
      | (go_at_call 19; refine (kUnpack (unhide HDZ) (unhide HUP) (unhide HOO) (unhide HOF) (u := U5)).mono ?_; rintro e U6 ⟨xp, np, mp, rfl, hs, hb⟩; clear c0A c1A c2A c0C c1C c0D c1D; replace HLA := hide ((unhide HLA).below hb); replace HCC := hide (box_below (unhide HCC) hb); replace HCD := hide (box_below (unhide HCD) hb); replace HBU : Hid (Below N u U6) := (unhide HBU).trans (hb.mono (unhide HNW)); replace HNW : Hid (N ≤ U6.heap.size) := Nat.le_trans (unhide HNW) hb.size; have HT := hide hs; clear hs; simp only [obV]; clear hb; obtain ⟨c0A, c1A, c2A⟩ := (unhide HLA).cells; obtain ⟨c0C, c1C⟩ := ce_cells (unhide HCC); obtain ⟨c0D, c1D⟩ := ce_cells (unhide HCD); )
      | ((with_reducible refine wpList_alloc_ob (by rfl) (by rfl) (some 7) (by rfl) _ rfl ?_); intro U7 HY HA HZ; obtain ⟨KP, hKP⟩ : ∃ k, k = U6.heap.size := ⟨_, rfl⟩; rw [← hKP] at HY HA HZ ⊢; have HEKP := hide hKP; clear hKP; simp only [Act.put, List.setIfInBounds_toArray, List.set_cons_zero, List.set_cons_succ])
      | ((with_reducible refine wpList_store_ob (by rfl) (.tmp 7) (.tmp 28) (by rfl) KP o.key xp np mp (by with_unfolding_all rfl) (by with_unfolding_all rfl) _ _ _ _ (unhide HY) ?_); intro U8 HYY HEE; simp only [Act.put]; have hb : Below U6.heap.size U6 U8 := (by rw [unhide HEE, ← unhide HEKP]; exact belowRow (unhide HA) (Nat.le_refl _) _); clear c0A c1A c2A c0C c1C c0D c1D; replace HLA := hide ((unhide HLA).below hb); replace HCC := hide (box_below (unhide HCC) hb); replace HCD := hide (box_below (unhide HCD) hb); replace HT := hide ((unhide HT).below hb); replace HBU : Hid (Below N u U8) := (unhide HBU).trans (hb.mono (unhide HNW)); replace HNW : Hid (N ≤ U8.heap.size) := Nat.le_trans (unhide HNW) hb.size; have HLP : Hid (Lo U8 KP o xp np mp) := ⟨(unhide HT), unhide HYY⟩; clear hb HT HY HA HZ HYY HEE HEKP; obtain ⟨c0A, c1A, c2A⟩ := (unhide HLA).cells; obtain ⟨c0C, c1C⟩ := ce_cells (unhide HCC); obtain ⟨c0D, c1D⟩ := ce_cells (unhide HCD); obtain ⟨c0P, c1P, c2P⟩ := (unhide HLP).cells; )
      | (go_at_call 11; refine (unhide HQA U8).mono ?_; rintro e U9 ⟨rfl, hb⟩; clear c0A c1A c2A c0C c1C c0D c1D c0P c1P c2P; replace HLA := hide ((unhide HLA).below hb); replace HCC := hide (box_below (unhide HCC) hb); replace HCD := hide (box_below (unhide HCD) hb); replace HLP := hide ((unhide HLP).below hb); replace HBU : Hid (Below N u U9) := (unhide HBU).trans (hb.mono (unhide HNW)); replace HNW : Hid (N ≤ U9.heap.size) := Nat.le_trans (unhide HNW) hb.size; clear HQA; clear hb; obtain ⟨c0A, c1A, c2A⟩ := (unhide HLA).cells; obtain ⟨c0C, c1C⟩ := ce_cells (unhide HCC); obtain ⟨c0D, c1D⟩ := ce_cells (unhide HCD); obtain ⟨c0P, c1P, c2P⟩ := (unhide HLP).cells; )
      | fail)
    go_wp2_with fail
    refine wp_region_last (fun V => Below U9.heap.size U9 V) 68 hmix (belowDrew (Below.refl _ _)) fun hS => ?_
    generalize U9.drew = Z0 at hS ⊢
    refine wpAnyL_take 0 36 (.int .i64 0) [1, 2, 6, 9, 12, 16, 19, 29, 39, 47, 61, 65] rfl rfl (by kernel_rfl) (by kernel_rfl) (by kernel_rfl) (by kernel_rfl) (by kernel_rfl) (fun _ _ _ h => h) (by rfl) (fun _ _ => by go_simp) hS ?_
    simp only [Act.put, List.setIfInBounds_toArray, List.set_cons_zero, List.set_cons_succ]
    refine wpAnyL_take 1 37 (.bool false) [2, 6, 9, 12, 16, 19, 29, 39, 47, 61, 65] rfl rfl (by kernel_rfl) (by kernel_rfl) (by kernel_rfl) (by kernel_rfl) (by kernel_rfl) (fun _ _ _ h => h) (by rfl) (fun _ _ => by go_simp) hS ?_
    simp only [Act.put, List.setIfInBounds_toArray, List.set_cons_zero, List.set_cons_succ]
    refine wpAnyL_take 2 38 (.bool false) [6, 9, 12, 16, 19, 29, 39, 47, 61, 65] rfl rfl (by kernel_rfl) (by kernel_rfl) (by kernel_rfl) (by kernel_rfl) (by kernel_rfl) (fun _ _ _ h => h) (by rfl) (fun _ _ => by go_simp) hS ?_
    simp only [Act.put, List.setIfInBounds_toArray, List.set_cons_zero, List.set_cons_succ]
    refine wpAnyL_take 3 39 (.int .i64 0) [4, 5, 6, 9, 12, 16, 19, 29, 39, 47, 61, 65] rfl rfl (by kernel_rfl) (by kernel_rfl) (by kernel_rfl) (by kernel_rfl) (by kernel_rfl) (fun _ _ _ h => h) (by rfl) (fun _ _ => by go_simp) hS ?_
    simp only [Act.put, List.setIfInBounds_toArray, List.set_cons_zero, List.set_cons_succ]
    refine wpAnyL_take 4 40 (.bool false) [5, 6, 9, 12, 16, 19, 29, 39, 47, 61, 65] rfl rfl (by kernel_rfl) (by kernel_rfl) (by kernel_rfl) (by kernel_rfl) (by kernel_rfl) (fun _ _ _ h => h) (by rfl) (fun _ _ => by go_simp) hS ?_
    simp only [Act.put, List.setIfInBounds_toArray, List.set_cons_zero, List.set_cons_succ]
    refine wpAnyL_take 5 41 (.bool false) [6, 9, 12, 16, 19, 29, 39, 47, 61, 65] rfl rfl (by kernel_rfl) (by kernel_rfl) (by kernel_rfl) (by kernel_rfl) (by kernel_rfl) (fun _ _ _ h => h) (by rfl) (fun _ _ => by go_simp) hS ?_
    simp only [Act.put, List.setIfInBounds_toArray, List.set_cons_zero, List.set_cons_succ]
    refine wpAnyL_take 6 42 (.bool false) [9, 12, 16, 19, 29, 39, 47, 61, 65] rfl rfl (by kernel_rfl) (by kernel_rfl) (by kernel_rfl) (by kernel_rfl) (by kernel_rfl) (fun _ _ _ h => h) (by rfl) (fun _ _ => by go_simp) hS ?_
    simp only [Act.put, List.setIfInBounds_toArray, List.set_cons_zero, List.set_cons_succ]
    refine wpAnyL_take 7 43 (obV o.key xp np mp) [9, 12, 16, 19, 29, 39, 47, 61, 65] rfl rfl (by kernel_rfl) (by kernel_rfl) (by kernel_rfl) (by kernel_rfl) (by kernel_rfl) (fun _ _ _ h => h) (by rfl) (fun V hV => by obtain ⟨c0, c1, c2⟩ := ((unhide HLP).below hV).cells; simp only [obV]; go_simp) hS ?_
    simp only [Act.put, List.setIfInBounds_toArray, List.set_cons_zero, List.set_cons_succ]
    refine wpAnyL_take 8 44 (obV o.key va na ma) [9, 12, 16, 19, 29, 39, 47, 61, 65] rfl rfl (by kernel_rfl) (by kernel_rfl) (by kernel_rfl) (by kernel_rfl) (by kernel_rfl) (fun _ _ _ h => h) (by rfl) (fun V hV => by obtain ⟨c0, c1, c2⟩ := ((unhide HLA).below hV).cells; simp only [obV]; go_simp) hS ?_
    simp only [Act.put, List.setIfInBounds_toArray, List.set_cons_zero, List.set_cons_succ]
    refine wpAnyL_one (i := 9) (by kernel_rfl) rfl (by rfl) fun K hK => ?_
    refine wp_call_fn 17 _ _ (by rfl) #[obV o.key xp np mp, obV o.key va na ma] (by with_unfolding_all rfl) entLS (some 45) (by rfl) _ (asV (klSame (a := o) (b := o) ((unhide HLP).toSx.below hS) ((unhide HLA).toSx.below hS) true (sameO_iff.2 rfl))) ?_
    rintro _ Z1 ⟨rfl, hbx⟩
    have HS1 : Hid (Below U9.heap.size U9 Z1) := hS.trans (hbx.mono hS.size)
    clear hbx
    refine hK _ _ (fun _ => unhide HS1) ?_
    clear hK K
    simp only [Act.put, List.setIfInBounds_toArray, List.set_cons_zero, List.set_cons_succ]
    refine wpAnyL_take 10 46 (.bool false) [11, 12, 16, 19, 29, 39, 47, 61, 65] rfl rfl (by kernel_rfl) (by kernel_rfl) (by kernel_rfl) (by kernel_rfl) (by kernel_rfl) (fun _ _ _ h => h) (by rfl) (fun _ _ => by go_simp) (unhide HS1) ?_
    simp only [Act.put, List.setIfInBounds_toArray, List.set_cons_zero, List.set_cons_succ]
    refine wpAnyL_take 11 47 (.bool false) [12, 16, 19, 29, 39, 47, 61, 65] rfl rfl (by kernel_rfl) (by kernel_rfl) (by kernel_rfl) (by kernel_rfl) (by kernel_rfl) (fun _ _ _ h => h) (by rfl) (fun _ _ => by go_simp) (unhide HS1) ?_
    simp only [Act.put, List.setIfInBounds_toArray, List.set_cons_zero, List.set_cons_succ]
    refine wpAnyL_take 12 48 (.bool false) [16, 19, 29, 39, 47, 61, 65] rfl rfl (by kernel_rfl) (by kernel_rfl) (by kernel_rfl) (by kernel_rfl) (by kernel_rfl) (fun _ _ _ h => h) (by rfl) (fun _ _ => by go_simp) (unhide HS1) ?_
    simp only [Act.put, List.setIfInBounds_toArray, List.set_cons_zero, List.set_cons_succ]
    refine wpAnyL_take 13 49 (obV o.key xp np mp) [16, 19, 29, 39, 47, 61, 65] rfl rfl (by kernel_rfl) (by kernel_rfl) (by kernel_rfl) (by kernel_rfl) (by kernel_rfl) (fun _ _ _ h => h) (by rfl) (fun V hV => by obtain ⟨c0, c1, c2⟩ := ((unhide HLP).below hV).cells; simp only [obV]; go_simp) (unhide HS1) ?_
    simp only [Act.put, List.setIfInBounds_toArray, List.set_cons_zero, List.set_cons_succ]
    refine wpAnyL_take 14 50 (obV o.key va na ma) [15, 16, 19, 29, 39, 47, 61, 65] rfl rfl (by kernel_rfl) (by kernel_rfl) (by kernel_rfl) (by kernel_rfl) (by kernel_rfl) (fun _ _ _ h => h) (by rfl) (fun V hV => by obtain ⟨c0, c1, c2⟩ := ((unhide HLA).below hV).cells; simp only [obV]; go_simp) (unhide HS1) ?_
    simp only [Act.put, List.setIfInBounds_toArray, List.set_cons_zero, List.set_cons_succ]
    refine wpAnyL_one (i := 15) (by kernel_rfl) rfl (by rfl) fun K hK => ?_
    refine wp_call_fn 13 _ _ (by rfl) #[obV o.key va na ma] (by with_unfolding_all rfl) entLT (some 51) (by rfl) _ (asV2 (kTwin Z1 ((unhide HLA).toSx.below (unhide HS1)))) ?_
    rintro _ Z2 ⟨xt, rfl, hsx, hbx⟩
    have HT := hide hsx
    have HS2 : Hid (Below U9.heap.size U9 Z2) := (unhide HS1).trans (hbx.mono (unhide HS1).size)
    clear hbx hsx
    refine hK _ _ (fun _ => unhide HS2) ?_
    clear hK K
    simp only [Act.put, List.setIfInBounds_toArray, List.set_cons_zero, List.set_cons_succ]
    refine wpAnyL_one (i := 16) (by kernel_rfl) rfl (by rfl) fun K hK => ?_
    refine wp_call_fn 29 _ _ (by rfl) #[obV o.key xp np mp, obV o.key xt na ma] (by with_unfolding_all rfl) entOS (some 52) (by rfl) _ (asV (oSame (o := o) (q := o) ((unhide HLP).toSx.below (unhide HS2)) (unhide HT) true (sameKK o))) ?_
    rintro _ Z3 ⟨rfl, hbx⟩
    have HS3 : Hid (Below U9.heap.size U9 Z3) := (unhide HS2).trans (hbx.mono (unhide HS2).size)
    clear hbx HT
    refine hK _ _ (fun _ => unhide HS3) ?_
    clear hK K
    simp only [Act.put, List.setIfInBounds_toArray, List.set_cons_zero, List.set_cons_succ]
    refine wpAnyL_take 17 53 (.bool false) [18, 19, 29, 39, 47, 61, 65] rfl rfl (by kernel_rfl) (by kernel_rfl) (by kernel_rfl) (by kernel_rfl) (by kernel_rfl) (fun _ _ _ h => h) (by rfl) (fun _ _ => by go_simp) (unhide HS3) ?_
    simp only [Act.put, List.setIfInBounds_toArray, List.set_cons_zero, List.set_cons_succ]
    refine wpAnyL_take 18 54 (.bool false) [19, 29, 39, 47, 61, 65] rfl rfl (by kernel_rfl) (by kernel_rfl) (by kernel_rfl) (by kernel_rfl) (by kernel_rfl) (fun _ _ _ h => h) (by rfl) (fun _ _ => by go_simp) (unhide HS3) ?_
    simp only [Act.put, List.setIfInBounds_toArray, List.set_cons_zero, List.set_cons_succ]
    refine wpAnyL_take 19 55 (.bool false) [29, 39, 47, 61, 65] rfl rfl (by kernel_rfl) (by kernel_rfl) (by kernel_rfl) (by kernel_rfl) (by kernel_rfl) (fun _ _ _ h => h) (by rfl) (fun _ _ => by go_simp) (unhide HS3) ?_
    simp only [Act.put, List.setIfInBounds_toArray, List.set_cons_zero, List.set_cons_succ]
    refine wpAnyL_take 20 56 (.pointer (some ⟨KD, 0, none⟩)) [21, 22, 26, 27, 28, 29, 39, 47, 61, 65] rfl rfl (by kernel_rfl) (by kernel_rfl) (by kernel_rfl) (by kernel_rfl) (by kernel_rfl) (fun _ _ _ h => h) (by rfl) (fun _ _ => by go_simp) (unhide HS3) ?_
    simp only [Act.put, List.setIfInBounds_toArray, List.set_cons_zero, List.set_cons_succ]
    refine wpAnyL_take 21 57 (.string dk) [22, 26, 27, 28, 29, 39, 47, 61, 65] rfl rfl (by kernel_rfl) (by kernel_rfl) (by kernel_rfl) (by kernel_rfl) (by kernel_rfl) (fun _ _ _ h => h) (by rfl) (fun V hV => by obtain ⟨c0, c1⟩ := ce_cells (box_below (unhide HCD) hV); go_simp) (unhide HS3) ?_
    simp only [Act.put, List.setIfInBounds_toArray, List.set_cons_zero, List.set_cons_succ]
    refine wpAnyL_take 22 58 (.int .i64 (dk.size : Int)) [26, 27, 28, 29, 39, 47, 61, 65] rfl rfl (by kernel_rfl) (by kernel_rfl) (by kernel_rfl) (by kernel_rfl) (by kernel_rfl) (fun _ _ _ h => h) (by rfl) (fun _ _ => by go_simp) (unhide HS3) ?_
    simp only [Act.put, List.setIfInBounds_toArray, List.set_cons_zero, List.set_cons_succ]
    refine wpAnyL_take 23 59 (.pointer (some ⟨KD, 1, none⟩)) [24, 25, 26, 27, 28, 29, 39, 47, 61, 65] rfl rfl (by kernel_rfl) (by kernel_rfl) (by kernel_rfl) (by kernel_rfl) (by kernel_rfl) (fun _ _ _ h => h) (by rfl) (fun _ _ => by go_simp) (unhide HS3) ?_
    simp only [Act.put, List.setIfInBounds_toArray, List.set_cons_zero, List.set_cons_succ]
    refine wpAnyL_take 24 60 (.string dz) [25, 26, 27, 28, 29, 39, 47, 61, 65] rfl rfl (by kernel_rfl) (by kernel_rfl) (by kernel_rfl) (by kernel_rfl) (by kernel_rfl) (fun _ _ _ h => h) (by rfl) (fun V hV => by obtain ⟨c0, c1⟩ := ce_cells (box_below (unhide HCD) hV); go_simp) (unhide HS3) ?_
    simp only [Act.put, List.setIfInBounds_toArray, List.set_cons_zero, List.set_cons_succ]
    refine wpAnyL_take 25 61 (.int .i64 (dz.size : Int)) [26, 27, 28, 29, 39, 47, 61, 65] rfl rfl (by kernel_rfl) (by kernel_rfl) (by kernel_rfl) (by kernel_rfl) (by kernel_rfl) (fun _ _ _ h => h) (by rfl) (fun _ _ => by go_simp) (unhide HS3) ?_
    simp only [Act.put, List.setIfInBounds_toArray, List.set_cons_zero, List.set_cons_succ]
    refine wpAnyL_take 26 62 (.int .i64 (ss : Int)) [27, 28, 29, 39, 47, 61, 65] rfl rfl (by kernel_rfl) (by kernel_rfl) (by kernel_rfl) (by kernel_rfl) (by kernel_rfl) (fun _ _ _ h => h) (by rfl) (fun _ _ => by go_simp) (unhide HS3) ?_
    simp only [Act.put, List.setIfInBounds_toArray, List.set_cons_zero, List.set_cons_succ]
    refine wpAnyL_take 27 63 (.bool false) [28, 29, 39, 47, 61, 65] rfl rfl (by kernel_rfl) (by kernel_rfl) (by kernel_rfl) (by kernel_rfl) (by kernel_rfl) (fun _ _ _ h => h) (by rfl) (fun _ _ => by go_simp) (unhide HS3) ?_
    simp only [Act.put, List.setIfInBounds_toArray, List.set_cons_zero, List.set_cons_succ]
    refine wpAnyL_take 28 64 (.bool false) [29, 39, 47, 61, 65] rfl rfl (by kernel_rfl) (by kernel_rfl) (by kernel_rfl) (by kernel_rfl) (by kernel_rfl) (fun _ _ _ h => h) (by rfl) (fun _ _ => by go_simp) (unhide HS3) ?_
    simp only [Act.put, List.setIfInBounds_toArray, List.set_cons_zero, List.set_cons_succ]
    refine wpAnyL_take 29 65 (.bool false) [39, 47, 61, 65] rfl rfl (by kernel_rfl) (by kernel_rfl) (by kernel_rfl) (by kernel_rfl) (by kernel_rfl) (fun _ _ _ h => h) (by rfl) (fun _ _ => by go_simp) (unhide HS3) ?_
    simp only [Act.put, List.setIfInBounds_toArray, List.set_cons_zero, List.set_cons_succ]
    refine wpAnyL_take 30 66 (.pointer (some ⟨KD, 0, none⟩)) [31, 32, 37, 38, 39, 47, 61, 65] rfl rfl (by kernel_rfl) (by kernel_rfl) (by kernel_rfl) (by kernel_rfl) (by kernel_rfl) (fun _ _ _ h => h) (by rfl) (fun _ _ => by go_simp) (unhide HS3) ?_
    simp only [Act.put, List.setIfInBounds_toArray, List.set_cons_zero, List.set_cons_succ]
    refine wpAnyL_take 31 67 (.string dk) [32, 37, 38, 39, 47, 61, 65] rfl rfl (by kernel_rfl) (by kernel_rfl) (by kernel_rfl) (by kernel_rfl) (by kernel_rfl) (fun _ _ _ h => h) (by rfl) (fun V hV => by obtain ⟨c0, c1⟩ := ce_cells (box_below (unhide HCD) hV); go_simp) (unhide HS3) ?_
    simp only [Act.put, List.setIfInBounds_toArray, List.set_cons_zero, List.set_cons_succ]
    refine wpAnyL_take 32 68 (.int .i64 (dk.size : Int)) [37, 38, 39, 47, 61, 65] rfl rfl (by kernel_rfl) (by kernel_rfl) (by kernel_rfl) (by kernel_rfl) (by kernel_rfl) (fun _ _ _ h => h) (by rfl) (fun _ _ => by go_simp) (unhide HS3) ?_
    simp only [Act.put, List.setIfInBounds_toArray, List.set_cons_zero, List.set_cons_succ]
    refine wpAnyL_take 33 69 (.pointer (some ⟨N, 0, none⟩)) [34, 35, 36, 37, 38, 39, 47, 61, 65] rfl rfl (by kernel_rfl) (by kernel_rfl) (by kernel_rfl) (by kernel_rfl) (by kernel_rfl) (fun _ _ _ h => h) (by rfl) (fun _ _ => by go_simp) (unhide HS3) ?_
    simp only [Act.put, List.setIfInBounds_toArray, List.set_cons_zero, List.set_cons_succ]
    refine wpAnyL_take 34 70 (.string o.key) [35, 36, 37, 38, 39, 47, 61, 65] rfl rfl (by kernel_rfl) (by kernel_rfl) (by kernel_rfl) (by kernel_rfl) (by kernel_rfl) (fun _ _ _ h => h) (by rfl) (fun V hV => by obtain ⟨c0, c1, c2⟩ := ((unhide HLA).below hV).cells; go_simp) (unhide HS3) ?_
    simp only [Act.put, List.setIfInBounds_toArray, List.set_cons_zero, List.set_cons_succ]
    refine wpAnyL_take 35 71 (.int .i64 (o.key.size : Int)) [36, 37, 38, 39, 47, 61, 65] rfl rfl (by kernel_rfl) (by kernel_rfl) (by kernel_rfl) (by kernel_rfl) (by kernel_rfl) (fun _ _ _ h => h) (by rfl) (fun _ _ => by go_simp) (unhide HS3) ?_
    simp only [Act.put, List.setIfInBounds_toArray, List.set_cons_zero, List.set_cons_succ]
    refine wpAnyL_take 36 72 (.int .i64 (dk.size : Int)) [37, 38, 39, 47, 61, 65] rfl rfl (by kernel_rfl) (by kernel_rfl) (by kernel_rfl) (by kernel_rfl) (by kernel_rfl) (fun _ _ _ h => h) (by rfl) (fun _ _ => by go_simp) (unhide HS3) ?_
    simp only [Act.put, List.setIfInBounds_toArray, List.set_cons_zero, List.set_cons_succ]
    refine wpAnyL_take 37 73 (.bool false) [38, 39, 47, 61, 65] rfl rfl (by kernel_rfl) (by kernel_rfl) (by kernel_rfl) (by kernel_rfl) (by kernel_rfl) (fun _ _ _ h => h) (by rfl) (fun _ _ => by go_simp) (unhide HS3) ?_
    simp only [Act.put, List.setIfInBounds_toArray, List.set_cons_zero, List.set_cons_succ]
    refine wpAnyL_take 38 74 (.bool false) [39, 47, 61, 65] rfl rfl (by kernel_rfl) (by kernel_rfl) (by kernel_rfl) (by kernel_rfl) (by kernel_rfl) (fun _ _ _ h => h) (by rfl) (fun _ _ => by go_simp) (unhide HS3) ?_
    simp only [Act.put, List.setIfInBounds_toArray, List.set_cons_zero, List.set_cons_succ]
    refine wpAnyL_take 39 75 (.bool false) [47, 61, 65] rfl rfl (by kernel_rfl) (by kernel_rfl) (by kernel_rfl) (by kernel_rfl) (by kernel_rfl) (fun _ _ _ h => h) (by rfl) (fun _ _ => by go_simp) (unhide HS3) ?_
    simp only [Act.put, List.setIfInBounds_toArray, List.set_cons_zero, List.set_cons_succ]
    refine wpAnyL_take 40 76 (.pointer (some ⟨KD, 0, none⟩)) [41, 42, 45, 46, 47, 61, 65] rfl rfl (by kernel_rfl) (by kernel_rfl) (by kernel_rfl) (by kernel_rfl) (by kernel_rfl) (fun _ _ _ h => h) (by rfl) (fun _ _ => by go_simp) (unhide HS3) ?_
    simp only [Act.put, List.setIfInBounds_toArray, List.set_cons_zero, List.set_cons_succ]
    refine wpAnyL_take 41 77 (.string dk) [42, 45, 46, 47, 61, 65] rfl rfl (by kernel_rfl) (by kernel_rfl) (by kernel_rfl) (by kernel_rfl) (by kernel_rfl) (fun _ _ _ h => h) (by rfl) (fun V hV => by obtain ⟨c0, c1⟩ := ce_cells (box_below (unhide HCD) hV); go_simp) (unhide HS3) ?_
    simp only [Act.put, List.setIfInBounds_toArray, List.set_cons_zero, List.set_cons_succ]
    refine wpAnyL_take 42 78 (.string o.key) [45, 46, 47, 61, 65] rfl rfl (by kernel_rfl) (by kernel_rfl) (by kernel_rfl) (by kernel_rfl) (by kernel_rfl) (fun _ _ _ h => h) (by rfl) (fun V _ => by have h := hsl V; go_simp) (unhide HS3) ?_
    simp only [Act.put, List.setIfInBounds_toArray, List.set_cons_zero, List.set_cons_succ]
    refine wpAnyL_take 43 79 (.pointer (some ⟨N, 0, none⟩)) [44, 45, 46, 47, 61, 65] rfl rfl (by kernel_rfl) (by kernel_rfl) (by kernel_rfl) (by kernel_rfl) (by kernel_rfl) (fun _ _ _ h => h) (by rfl) (fun _ _ => by go_simp) (unhide HS3) ?_
    simp only [Act.put, List.setIfInBounds_toArray, List.set_cons_zero, List.set_cons_succ]
    refine wpAnyL_take 44 80 (.string o.key) [45, 46, 47, 61, 65] rfl rfl (by kernel_rfl) (by kernel_rfl) (by kernel_rfl) (by kernel_rfl) (by kernel_rfl) (fun _ _ _ h => h) (by rfl) (fun V hV => by obtain ⟨c0, c1, c2⟩ := ((unhide HLA).below hV).cells; go_simp) (unhide HS3) ?_
    simp only [Act.put, List.setIfInBounds_toArray, List.set_cons_zero, List.set_cons_succ]
    refine wpAnyL_take 45 81 (.bool false) [46, 47, 61, 65] rfl rfl (by kernel_rfl) (by kernel_rfl) (by kernel_rfl) (by kernel_rfl) (by kernel_rfl) (fun _ _ _ h => h) (by rfl) (fun _ _ => by go_simp) (unhide HS3) ?_
    simp only [Act.put, List.setIfInBounds_toArray, List.set_cons_zero, List.set_cons_succ]
    refine wpAnyL_take 46 82 (.bool false) [47, 61, 65] rfl rfl (by kernel_rfl) (by kernel_rfl) (by kernel_rfl) (by kernel_rfl) (by kernel_rfl) (fun _ _ _ h => h) (by rfl) (fun _ _ => by go_simp) (unhide HS3) ?_
    simp only [Act.put, List.setIfInBounds_toArray, List.set_cons_zero, List.set_cons_succ]
    refine wpAnyL_take 47 83 (.bool false) [61, 65] rfl rfl (by kernel_rfl) (by kernel_rfl) (by kernel_rfl) (by kernel_rfl) (by kernel_rfl) (fun _ _ _ h => h) (by rfl) (fun _ _ => by go_simp) (unhide HS3) ?_
    simp only [Act.put, List.setIfInBounds_toArray, List.set_cons_zero, List.set_cons_succ]
    refine wpAnyL_take 48 84 (.pointer (some ⟨KD, 0, none⟩)) [49, 50, 51, 52, 57, 59, 60, 61, 65] rfl rfl (by kernel_rfl) (by kernel_rfl) (by kernel_rfl) (by kernel_rfl) (by kernel_rfl) (fun _ _ _ h => h) (by rfl) (fun _ _ => by go_simp) (unhide HS3) ?_
    simp only [Act.put, List.setIfInBounds_toArray, List.set_cons_zero, List.set_cons_succ]
    refine wpAnyL_take 49 85 (.string dk) [50, 51, 52, 57, 59, 60, 61, 65] rfl rfl (by kernel_rfl) (by kernel_rfl) (by kernel_rfl) (by kernel_rfl) (by kernel_rfl) (fun _ _ _ h => h) (by rfl) (fun V hV => by obtain ⟨c0, c1⟩ := ce_cells (box_below (unhide HCD) hV); go_simp) (unhide HS3) ?_
    simp only [Act.put, List.setIfInBounds_toArray, List.set_cons_zero, List.set_cons_succ]
    refine wpAnyL_take 50 86 (.int .u8 (b0 : Int)) [51, 52, 57, 59, 60, 61, 65] rfl rfl (by kernel_rfl) (by kernel_rfl) (by kernel_rfl) (by kernel_rfl) (by kernel_rfl) (fun _ _ _ h => h) (by rfl) (fun V _ => by have h := hix0 V; go_simp) (unhide HS3) ?_
    simp only [Act.put, List.setIfInBounds_toArray, List.set_cons_zero, List.set_cons_succ]
    refine wpAnyL_take 51 87 (.int .i64 (b0 : Int)) [52, 57, 59, 60, 61, 65] rfl rfl (by kernel_rfl) (by kernel_rfl) (by kernel_rfl) (by kernel_rfl) (by kernel_rfl) (fun _ _ _ h => h) (by rfl) (fun _ _ => by go_simp) (unhide HS3) ?_
    simp only [Act.put, List.setIfInBounds_toArray, List.set_cons_zero, List.set_cons_succ]
    refine wpAnyL_take 52 88 (.int .i64 (m0 : Int)) [57, 59, 60, 61, 65] rfl rfl (by kernel_rfl) (by kernel_rfl) (by kernel_rfl) (by kernel_rfl) (by kernel_rfl) (fun _ _ _ h => h) (by rfl) (fun _ _ => by go_simp) (unhide HS3) ?_
    simp only [Act.put, List.setIfInBounds_toArray, List.set_cons_zero, List.set_cons_succ]
    refine wpAnyL_take 53 89 (.pointer (some ⟨KD, 0, none⟩)) [54, 55, 56, 57, 59, 60, 61, 65] rfl rfl (by kernel_rfl) (by kernel_rfl) (by kernel_rfl) (by kernel_rfl) (by kernel_rfl) (fun _ _ _ h => h) (by rfl) (fun _ _ => by go_simp) (unhide HS3) ?_
    simp only [Act.put, List.setIfInBounds_toArray, List.set_cons_zero, List.set_cons_succ]
    refine wpAnyL_take 54 90 (.string dk) [55, 56, 57, 59, 60, 61, 65] rfl rfl (by kernel_rfl) (by kernel_rfl) (by kernel_rfl) (by kernel_rfl) (by kernel_rfl) (fun _ _ _ h => h) (by rfl) (fun V hV => by obtain ⟨c0, c1⟩ := ce_cells (box_below (unhide HCD) hV); go_simp) (unhide HS3) ?_
    simp only [Act.put, List.setIfInBounds_toArray, List.set_cons_zero, List.set_cons_succ]
    refine wpAnyL_take 55 91 (.int .u8 (b1 : Int)) [56, 57, 59, 60, 61, 65] rfl rfl (by kernel_rfl) (by kernel_rfl) (by kernel_rfl) (by kernel_rfl) (by kernel_rfl) (fun _ _ _ h => h) (by rfl) (fun V _ => by have h := hix1 V; go_simp) (unhide HS3) ?_
    simp only [Act.put, List.setIfInBounds_toArray, List.set_cons_zero, List.set_cons_succ]
    refine wpAnyL_take 56 92 (.int .i64 (b1 : Int)) [57, 59, 60, 61, 65] rfl rfl (by kernel_rfl) (by kernel_rfl) (by kernel_rfl) (by kernel_rfl) (by kernel_rfl) (fun _ _ _ h => h) (by rfl) (fun _ _ => by go_simp) (unhide HS3) ?_
    simp only [Act.put, List.setIfInBounds_toArray, List.set_cons_zero, List.set_cons_succ]
    refine wpAnyL_take 57 93 (.int .i64 (p : Int)) [59, 60, 61, 65] rfl rfl (by kernel_rfl) (by kernel_rfl) (by kernel_rfl) (by kernel_rfl) (by kernel_rfl) (fun _ _ _ h => h) (by rfl) (fun _ _ => by go_simp) (unhide HS3) ?_
    simp only [Act.put, List.setIfInBounds_toArray, List.set_cons_zero, List.set_cons_succ]
    refine wpAnyL_take 58 94 (.int .i64 (p : Int)) [59, 60, 61, 65] rfl rfl (by kernel_rfl) (by kernel_rfl) (by kernel_rfl) (by kernel_rfl) (by kernel_rfl) (fun _ _ _ h => h) (by rfl) (fun _ _ => by go_simp) (unhide HS3) ?_
    simp only [Act.put, List.setIfInBounds_toArray, List.set_cons_zero, List.set_cons_succ]
    refine wpAnyL_take 59 95 (.bool false) [60, 61, 65] rfl rfl (by kernel_rfl) (by kernel_rfl) (by kernel_rfl) (by kernel_rfl) (by kernel_rfl) (fun _ _ _ h => h) (by rfl) (fun _ _ => by go_simp) (unhide HS3) ?_
    simp only [Act.put, List.setIfInBounds_toArray, List.set_cons_zero, List.set_cons_succ]
    refine wpAnyL_take 60 96 (.bool false) [61, 65] rfl rfl (by kernel_rfl) (by kernel_rfl) (by kernel_rfl) (by kernel_rfl) (by kernel_rfl) (fun _ _ _ h => h) (by rfl) (fun _ _ => by go_simp) (unhide HS3) ?_
    simp only [Act.put, List.setIfInBounds_toArray, List.set_cons_zero, List.set_cons_succ]
    refine wpAnyL_take 61 97 (.bool false) [65] rfl rfl (by kernel_rfl) (by kernel_rfl) (by kernel_rfl) (by kernel_rfl) (by kernel_rfl) (fun _ _ _ h => h) (by rfl) (fun _ _ => by go_simp) (unhide HS3) ?_
    simp only [Act.put, List.setIfInBounds_toArray, List.set_cons_zero, List.set_cons_succ]
    refine wpAnyL_take 62 98 (.int .i64 (p : Int)) [63, 64, 65] rfl rfl (by kernel_rfl) (by kernel_rfl) (by kernel_rfl) (by kernel_rfl) (by kernel_rfl) (fun _ _ _ h => h) (by rfl) (fun _ _ => by go_simp) (unhide HS3) ?_
    simp only [Act.put, List.setIfInBounds_toArray, List.set_cons_zero, List.set_cons_succ]
    refine wpAnyL_take 63 99 (.bool false) [64, 65] rfl rfl (by kernel_rfl) (by kernel_rfl) (by kernel_rfl) (by kernel_rfl) (by kernel_rfl) (fun _ _ _ h => h) (by rfl) (fun _ _ => by go_simp) (unhide HS3) ?_
    simp only [Act.put, List.setIfInBounds_toArray, List.set_cons_zero, List.set_cons_succ]
    refine wpAnyL_take 64 100 (.bool false) [65] rfl rfl (by kernel_rfl) (by kernel_rfl) (by kernel_rfl) (by kernel_rfl) (by kernel_rfl) (fun _ _ _ h => h) (by rfl) (fun _ _ => by go_simp) (unhide HS3) ?_
    simp only [Act.put, List.setIfInBounds_toArray, List.set_cons_zero, List.set_cons_succ]
    refine wpAnyL_take 65 101 (.bool false) [] rfl rfl (by kernel_rfl) (by kernel_rfl) (by kernel_rfl) (by kernel_rfl) (by kernel_rfl) (fun _ _ _ h => h) (by rfl) (fun _ _ => by go_simp) (unhide HS3) ?_
    simp only [Act.put, List.setIfInBounds_toArray, List.set_cons_zero, List.set_cons_succ]
    refine wpAnyL_take 66 102 (.int .i64 (p : Int)) [67] rfl rfl (by kernel_rfl) (by kernel_rfl) (by kernel_rfl) (by kernel_rfl) (by kernel_rfl) (fun _ _ _ h => h) (by rfl) (fun _ _ => by go_simp) (unhide HS3) ?_
    simp only [Act.put, List.setIfInBounds_toArray, List.set_cons_zero, List.set_cons_succ]
    refine wpAnyL_take 67 103 (.bool false) [] rfl rfl (by kernel_rfl) (by kernel_rfl) (by kernel_rfl) (by kernel_rfl) (by kernel_rfl) (fun _ _ _ h => h) (by rfl) (fun _ _ => by go_simp) (unhide HS3) ?_
    simp only [Act.put, List.setIfInBounds_toArray, List.set_cons_zero, List.set_cons_succ]
    refine wpAnyL_one (i := 68) (by kernel_rfl) rfl (by rfl) fun K hK => ?_
    refine wp_val (.bool false) (by go_simp) (some 104) (by rfl) ?_
    refine hK _ _ (fun _ => unhide HS3) ?_
    clear hK K
    simp only [Act.put, List.setIfInBounds_toArray, List.set_cons_zero, List.set_cons_succ]
    refine wpAnyL_done (by kernel_rfl) ?_ _
    replace HLA := hide ((unhide HLA).below (unhide HS3))
    replace HCC := hide (box_below (unhide HCC) (unhide HS3))
    replace HBU : Hid (Below N u Z3) := (unhide HBU).trans ((unhide HS3).mono (unhide HNW))
    replace HNW : Hid (N ≤ Z3.heap.size) := Nat.le_trans (unhide HNW) (unhide HS3).size
    clear HLP HCD HS1 HS2 HS3 hS
    obtain ⟨c0A, c1A, c2A⟩ := (unhide HLA).cells
    obtain ⟨c0C, c1C⟩ := ce_cells (unhide HCC)
    go_upto_region 11 with fail
    rcases unhide HJ with h | h
    · obtain ⟨J, h1, h2, h3, h4, h5⟩ := h
      have HUC := hide h1
      have HPJ := hide h2
      have HCJ := hide h3
      have HUO := hide h4
      have HUF := hide h5
      have hce : ∀ W : World, (binOp .eql 40 (.agg #[.string ck, .string cz]) (.agg #[.string ck, .string cz])).run Try.prog W = .ok (.bool true) W := fun W => by rw [eqlCl]; simp
      clear h1 h2 h3 h4 h5
      go_wp2_with (first
        | (go_at_call 19; refine (kUnpack (unhide HCZ) (unhide HUC) (unhide HUO) (unhide HUF) (u := Z3)).mono ?_; rintro e U61 ⟨xq, nq, mq, rfl, hs, hb⟩; clear c0A c1A c2A c0C c1C; replace HLA := hide ((unhide HLA).below hb); replace HCC := hide (box_below (unhide HCC) hb); replace HBU : Hid (Below N u U61) := (unhide HBU).trans (hb.mono (unhide HNW)); replace HNW : Hid (N ≤ U61.heap.size) := Nat.le_trans (unhide HNW) hb.size; have HT := hide hs; clear hs; simp only [obV]; clear hb; obtain ⟨c0A, c1A, c2A⟩ := (unhide HLA).cells; obtain ⟨c0C, c1C⟩ := ce_cells (unhide HCC); )
        | ((with_reducible refine wpList_alloc_ob (by rfl) (by rfl) (some 11) (by rfl) _ rfl ?_); intro U62 HY HA HZ; obtain ⟨KQ, hKQ⟩ : ∃ k, k = U61.heap.size := ⟨_, rfl⟩; rw [← hKQ] at HY HA HZ ⊢; have HEKQ := hide hKQ; clear hKQ; simp only [Act.put, List.setIfInBounds_toArray, List.set_cons_zero, List.set_cons_succ])
        | ((with_reducible refine wpList_store_ob (by rfl) (.tmp 11) (.tmp 134) (by rfl) KQ J.key xq nq mq (by with_unfolding_all rfl) (by with_unfolding_all rfl) _ _ _ _ (unhide HY) ?_); intro U63 HYY HEE; simp only [Act.put]; have hb : Below U61.heap.size U61 U63 := (by rw [unhide HEE, ← unhide HEKQ]; exact belowRow (unhide HA) (Nat.le_refl _) _); clear c0A c1A c2A c0C c1C; replace HLA := hide ((unhide HLA).below hb); replace HCC := hide (box_below (unhide HCC) hb); replace HT := hide ((unhide HT).below hb); replace HBU : Hid (Below N u U63) := (unhide HBU).trans (hb.mono (unhide HNW)); replace HNW : Hid (N ≤ U63.heap.size) := Nat.le_trans (unhide HNW) hb.size; have HLQ : Hid (Lo U63 KQ J xq nq mq) := ⟨(unhide HT), unhide HYY⟩; clear hb HT HY HA HZ HYY HEE HEKQ; obtain ⟨c0A, c1A, c2A⟩ := (unhide HLA).cells; obtain ⟨c0C, c1C⟩ := ce_cells (unhide HCC); obtain ⟨c0Q, c1Q, c2Q⟩ := (unhide HLQ).cells; replace c0Q : U63.cell? ⟨KQ, 0, none⟩ = some (.string J.key) := c0Q; )
        | (go_at_call 28; refine (oPack (o := J) (unhide HLQ).toSx _ _ _ (unhide HPJ)).mono ?_; rintro e U64 ⟨rfl, hb⟩; clear c0A c1A c2A c0C c1C c0Q c1Q c2Q; replace HLA := hide ((unhide HLA).below hb); replace HCC := hide (box_below (unhide HCC) hb); replace HLQ := hide ((unhide HLQ).below hb); replace HBU : Hid (Below N u U64) := (unhide HBU).trans (hb.mono (unhide HNW)); replace HNW : Hid (N ≤ U64.heap.size) := Nat.le_trans (unhide HNW) hb.size; clear HPJ; clear hb; obtain ⟨c0A, c1A, c2A⟩ := (unhide HLA).cells; obtain ⟨c0C, c1C⟩ := ce_cells (unhide HCC); obtain ⟨c0Q, c1Q, c2Q⟩ := (unhide HLQ).cells; replace c0Q : U64.cell? ⟨KQ, 0, none⟩ = some (.string J.key) := c0Q; )
        | ((with_reducible refine wpList_alloc_ce (by rfl) (by rfl) (some 13) (by rfl) _ rfl ?_); intro U65 HY HA HZ; obtain ⟨KR, hKR⟩ : ∃ k, k = U64.heap.size := ⟨_, rfl⟩; rw [← hKR] at HY HA HZ ⊢; have HEKR := hide hKR; clear hKR; simp only [Act.put, List.setIfInBounds_toArray, List.set_cons_zero, List.set_cons_succ])
        | ((with_reducible refine wpList_store_ce (by rfl) (.tmp 13) (.tmp 148) (by rfl) KR ck cz (by with_unfolding_all rfl) (by with_unfolding_all rfl) _ _ (unhide HY) ?_); intro U66 HYY HEE; simp only [Act.put]; have hb : Below U64.heap.size U64 U66 := (by rw [unhide HEE, ← unhide HEKR]; exact belowRow (unhide HA) (Nat.le_refl _) _); clear c0A c1A c2A c0C c1C c0Q c1Q c2Q; replace HLA := hide ((unhide HLA).below hb); replace HCC := hide (box_below (unhide HCC) hb); replace HLQ := hide ((unhide HLQ).below hb); replace HBU : Hid (Below N u U66) := (unhide HBU).trans (hb.mono (unhide HNW)); replace HNW : Hid (N ≤ U66.heap.size) := Nat.le_trans (unhide HNW) hb.size; have HCR := HYY; clear hb HY HA HZ HYY HEE HEKR; obtain ⟨c0A, c1A, c2A⟩ := (unhide HLA).cells; obtain ⟨c0C, c1C⟩ := ce_cells (unhide HCC); obtain ⟨c0Q, c1Q, c2Q⟩ := (unhide HLQ).cells; replace c0Q : U66.cell? ⟨KQ, 0, none⟩ = some (.string J.key) := c0Q; obtain ⟨c0R, c1R⟩ := ce_cells (unhide HCR); )
        | (go_at_call 30; refine (oCheck (o := J) (unhide HLQ).toSx 0 (unhide HCJ)).mono ?_; rintro e U67 ⟨rfl, hb⟩; clear c0A c1A c2A c0C c1C c0Q c1Q c2Q c0R c1R; replace HLA := hide ((unhide HLA).below hb); replace HCC := hide (box_below (unhide HCC) hb); replace HLQ := hide ((unhide HLQ).below hb); replace HCR := hide (box_below (unhide HCR) hb); replace HBU : Hid (Below N u U67) := (unhide HBU).trans (hb.mono (unhide HNW)); replace HNW : Hid (N ≤ U67.heap.size) := Nat.le_trans (unhide HNW) hb.size; clear hb; obtain ⟨c0A, c1A, c2A⟩ := (unhide HLA).cells; obtain ⟨c0C, c1C⟩ := ce_cells (unhide HCC); obtain ⟨c0Q, c1Q, c2Q⟩ := (unhide HLQ).cells; replace c0Q : U67.cell? ⟨KQ, 0, none⟩ = some (.string J.key) := c0Q; obtain ⟨c0R, c1R⟩ := ce_cells (unhide HCR); )
        | fail)
      go_ret
      exact ⟨rfl, unhide HBU⟩
    · have HUC := hide h
      have HUO := hide none_ok
      have HUF := hide fit_none
      clear h
      go_wp2_with (first
        | (go_at_call 19; refine (kUnpack (unhide HCZ) (unhide HUC) (unhide HUO) (unhide HUF) (u := Z3)).mono ?_; rintro e U61 ⟨xq, nq, mq, rfl, hs, hb⟩; clear c0A c1A c2A c0C c1C; replace HLA := hide ((unhide HLA).below hb); replace HCC := hide (box_below (unhide HCC) hb); replace HBU : Hid (Below N u U61) := (unhide HBU).trans (hb.mono (unhide HNW)); replace HNW : Hid (N ≤ U61.heap.size) := Nat.le_trans (unhide HNW) hb.size; have HT := hide hs; clear hs; simp only [obV]; clear hb; obtain ⟨c0A, c1A, c2A⟩ := (unhide HLA).cells; obtain ⟨c0C, c1C⟩ := ce_cells (unhide HCC); )
        | ((with_reducible refine wpList_alloc_ob (by rfl) (by rfl) (some 11) (by rfl) _ rfl ?_); intro U62 HY HA HZ; obtain ⟨KQ, hKQ⟩ : ∃ k, k = U61.heap.size := ⟨_, rfl⟩; rw [← hKQ] at HY HA HZ ⊢; have HEKQ := hide hKQ; clear hKQ; simp only [Act.put, List.setIfInBounds_toArray, List.set_cons_zero, List.set_cons_succ])
        | ((with_reducible refine wpList_store_ob (by rfl) (.tmp 11) (.tmp 134) (by rfl) KQ ⟨#[]⟩ xq nq mq (by with_unfolding_all rfl) (by with_unfolding_all rfl) _ _ _ _ (unhide HY) ?_); intro U63 HYY HEE; simp only [Act.put]; have hb : Below U61.heap.size U61 U63 := (by rw [unhide HEE, ← unhide HEKQ]; exact belowRow (unhide HA) (Nat.le_refl _) _); clear c0A c1A c2A c0C c1C; replace HLA := hide ((unhide HLA).below hb); replace HCC := hide (box_below (unhide HCC) hb); replace HT := hide ((unhide HT).below hb); replace HBU : Hid (Below N u U63) := (unhide HBU).trans (hb.mono (unhide HNW)); replace HNW : Hid (N ≤ U63.heap.size) := Nat.le_trans (unhide HNW) hb.size; have HLQ : Hid (Lo U63 KQ Ot.none xq nq mq) := ⟨(unhide HT), unhide HYY⟩; clear hb HT HY HA HZ HYY HEE HEKQ; obtain ⟨c0A, c1A, c2A⟩ := (unhide HLA).cells; obtain ⟨c0C, c1C⟩ := ce_cells (unhide HCC); obtain ⟨c0Q, c1Q, c2Q⟩ := (unhide HLQ).cells; replace c0Q : U63.cell? ⟨KQ, 0, none⟩ = some (.string ⟨#[]⟩) := c0Q; )
        | (go_at_call 17; refine (klSame (a := Ot.none) (b := Ot.none) (unhide HLQ).toSx (Sx.none U63) true (sameO_iff.2 rfl)).mono ?_; rintro e U64 ⟨rfl, hb⟩; clear c0A c1A c2A c0C c1C c0Q c1Q c2Q; replace HLA := hide ((unhide HLA).below hb); replace HCC := hide (box_below (unhide HCC) hb); replace HLQ := hide ((unhide HLQ).below hb); replace HBU : Hid (Below N u U64) := (unhide HBU).trans (hb.mono (unhide HNW)); replace HNW : Hid (N ≤ U64.heap.size) := Nat.le_trans (unhide HNW) hb.size; clear hb; obtain ⟨c0A, c1A, c2A⟩ := (unhide HLA).cells; obtain ⟨c0C, c1C⟩ := ce_cells (unhide HCC); obtain ⟨c0Q, c1Q, c2Q⟩ := (unhide HLQ).cells; replace c0Q : U64.cell? ⟨KQ, 0, none⟩ = some (.string ⟨#[]⟩) := c0Q; )
        | fail)
      go_ret
      exact ⟨rfl, unhide HBU⟩
  · have HCK := hide hc
    have hn0 : na = 0 := (unhide HNA).trans h0
    obtain ⟨dk, hdk⟩ : ∃ b, b = eB := ⟨_, rfl⟩
    obtain ⟨dz, hdz⟩ : ∃ b, b = eB := ⟨_, rfl⟩
    have HPA : Hid (packV o = (dk, dz, 110)) := by rw [hdk, hdz]; exact hp
    have hn1 : ¬ (na : Int) > 0 := by omega
    have hn2 : ¬ 0 < na := by omega
    clear hc h0 hp hdk hdz hn0
    go_enter Try.func7, Try.ntmps7
    go_upto_region 11 with (first
      | ((with_reducible refine wpList_box_ob (by rfl) (.tmp 0) (by rfl) (some 2) (by rfl) N (unhide HN) o.key va na ma (by with_unfolding_all rfl) ?_); intro B1 HY1 HA1 HZ1; simp only [Act.put, List.setIfInBounds_toArray, List.set_cons_zero, List.set_cons_succ])
      | ((with_reducible refine wpList_box_ce (by rfl) (.tmp 1) (by rfl) (some 3) (by rfl) (N + 1) (unhide HZ1).symm ck cz (by with_unfolding_all rfl) ?_); intro B2 HY2 HA2 HZ2; simp only [Act.put, List.setIfInBounds_toArray, List.set_cons_zero, List.set_cons_succ]; have HBU : Hid (Below N u B2) := (unhide HA1).trans ((unhide HA2).mono (by omega)); have HLA : Hid (Lo B2 N o va na ma) := ⟨(unhide HSA).below (unhide HU _ (unhide HBU)), ((unhide HA2).block N (by omega)).trans (unhide HY1)⟩; have HCC := HY2; have HNW : Hid (N ≤ B2.heap.size) := (by show N ≤ B2.heap.size; rw [unhide HZ2]; omega); clear HY1 HY2 HA1 HA2 HZ1 HZ2)
      | (go_at_call 27; refine (lWorks B2).mono ?_; rintro e U1 ⟨rfl, hb⟩; replace HLA := hide ((unhide HLA).below hb); replace HCC := hide (box_below (unhide HCC) hb); replace HBU : Hid (Below N u U1) := (unhide HBU).trans (hb.mono (unhide HNW)); replace HNW : Hid (N ≤ U1.heap.size) := Nat.le_trans (unhide HNW) hb.size; clear hb; obtain ⟨c0A, c1A, c2A⟩ := (unhide HLA).cells; obtain ⟨c0C, c1C⟩ := ce_cells (unhide HCC); )
      | (go_at_call 13; refine (kTwin U1 (unhide HLA).toSx).mono ?_; rintro e U2 ⟨x1, rfl, hs, hb⟩; clear c0A c1A c2A c0C c1C; replace HLA := hide ((unhide HLA).below hb); replace HCC := hide (box_below (unhide HCC) hb); replace HBU : Hid (Below N u U2) := (unhide HBU).trans (hb.mono (unhide HNW)); replace HNW : Hid (N ≤ U2.heap.size) := Nat.le_trans (unhide HNW) hb.size; have HT := hide hs; clear hs; clear hb; obtain ⟨c0A, c1A, c2A⟩ := (unhide HLA).cells; obtain ⟨c0C, c1C⟩ := ce_cells (unhide HCC); )
      | (go_at_call 28; refine (oPack (o := o) (unhide HT) _ _ _ (unhide HPA)).mono ?_; rintro e U3 ⟨rfl, hb⟩; clear c0A c1A c2A c0C c1C; replace HLA := hide ((unhide HLA).below hb); replace HCC := hide (box_below (unhide HCC) hb); replace HT := hide ((unhide HT).below hb); replace HBU : Hid (Below N u U3) := (unhide HBU).trans (hb.mono (unhide HNW)); replace HNW : Hid (N ≤ U3.heap.size) := Nat.le_trans (unhide HNW) hb.size; clear HT HPA; clear hb; obtain ⟨c0A, c1A, c2A⟩ := (unhide HLA).cells; obtain ⟨c0C, c1C⟩ := ce_cells (unhide HCC); )
      | ((with_reducible refine wpList_alloc_ce (by rfl) (by rfl) (some 5) (by rfl) _ rfl ?_); intro U4 HY HA HZ; obtain ⟨KD, hKD⟩ : ∃ k, k = U3.heap.size := ⟨_, rfl⟩; rw [← hKD] at HY HA HZ ⊢; have HEKD := hide hKD; clear hKD; simp only [Act.put, List.setIfInBounds_toArray, List.set_cons_zero, List.set_cons_succ])
      | ((with_reducible refine wpList_store_ce (by rfl) (.tmp 5) (.tmp 21) (by rfl) KD dk dz (by with_unfolding_all rfl) (by with_unfolding_all rfl) _ _ (unhide HY) ?_); intro U5 HYY HEE; simp only [Act.put]; have hb : Below U3.heap.size U3 U5 := (by rw [unhide HEE, ← unhide HEKD]; exact belowRow (unhide HA) (Nat.le_refl _) _); clear c0A c1A c2A c0C c1C; replace HLA := hide ((unhide HLA).below hb); replace HCC := hide (box_below (unhide HCC) hb); replace HBU : Hid (Below N u U5) := (unhide HBU).trans (hb.mono (unhide HNW)); replace HNW : Hid (N ≤ U5.heap.size) := Nat.le_trans (unhide HNW) hb.size; have HCD := HYY; clear hb HY HA HZ HYY HEE HEKD; obtain ⟨c0A, c1A, c2A⟩ := (unhide HLA).cells; obtain ⟨c0C, c1C⟩ := ce_cells (unhide HCC); obtain ⟨c0D, c1D⟩ := ce_cells (unhide HCD); )
      | (go_at_call 13; refine (kTwin U5 (unhide HLA).toSx).mono ?_; rintro e U6 ⟨x2, rfl, hs, hb⟩; clear c0A c1A c2A c0C c1C c0D c1D; replace HLA := hide ((unhide HLA).below hb); replace HCC := hide (box_below (unhide HCC) hb); replace HCD := hide (box_below (unhide HCD) hb); replace HBU : Hid (Below N u U6) := (unhide HBU).trans (hb.mono (unhide HNW)); replace HNW : Hid (N ≤ U6.heap.size) := Nat.le_trans (unhide HNW) hb.size; have HT := hide hs; clear hs; clear hb; obtain ⟨c0A, c1A, c2A⟩ := (unhide HLA).cells; obtain ⟨c0C, c1C⟩ := ce_cells (unhide HCC); obtain ⟨c0D, c1D⟩ := ce_cells (unhide HCD); )
      | (go_at_call 30; refine (oCheck (o := o) (unhide HT) _ (unhide HCK)).mono ?_; rintro e U7 ⟨rfl, hb⟩; clear c0A c1A c2A c0C c1C c0D c1D; replace HLA := hide ((unhide HLA).below hb); replace HCC := hide (box_below (unhide HCC) hb); replace HCD := hide (box_below (unhide HCD) hb); replace HT := hide ((unhide HT).below hb); replace HBU : Hid (Below N u U7) := (unhide HBU).trans (hb.mono (unhide HNW)); replace HNW : Hid (N ≤ U7.heap.size) := Nat.le_trans (unhide HNW) hb.size; clear HT; clear hb; obtain ⟨c0A, c1A, c2A⟩ := (unhide HLA).cells; obtain ⟨c0C, c1C⟩ := ce_cells (unhide HCC); obtain ⟨c0D, c1D⟩ := ce_cells (unhide HCD); )
      | fail)
    rcases unhide HJ with h | h
    · obtain ⟨J, h1, h2, h3, h4, h5⟩ := h
      have HUC := hide h1
      have HPJ := hide h2
      have HCJ := hide h3
      have HUO := hide h4
      have HUF := hide h5
      have hce : ∀ W : World, (binOp .eql 40 (.agg #[.string ck, .string cz]) (.agg #[.string ck, .string cz])).run Try.prog W = .ok (.bool true) W := fun W => by rw [eqlCl]; simp
      clear h1 h2 h3 h4 h5
      go_wp2_with (first
        | (go_at_call 19; refine (kUnpack (unhide HCZ) (unhide HUC) (unhide HUO) (unhide HUF) (u := U7)).mono ?_; rintro e U8 ⟨xq, nq, mq, rfl, hs, hb⟩; clear c0A c1A c2A c0C c1C c0D c1D; replace HLA := hide ((unhide HLA).below hb); replace HCC := hide (box_below (unhide HCC) hb); replace HCD := hide (box_below (unhide HCD) hb); replace HBU : Hid (Below N u U8) := (unhide HBU).trans (hb.mono (unhide HNW)); replace HNW : Hid (N ≤ U8.heap.size) := Nat.le_trans (unhide HNW) hb.size; have HT := hide hs; clear hs; simp only [obV]; clear hb; obtain ⟨c0A, c1A, c2A⟩ := (unhide HLA).cells; obtain ⟨c0C, c1C⟩ := ce_cells (unhide HCC); obtain ⟨c0D, c1D⟩ := ce_cells (unhide HCD); )
        | ((with_reducible refine wpList_alloc_ob (by rfl) (by rfl) (some 11) (by rfl) _ rfl ?_); intro U9 HY HA HZ; obtain ⟨KQ, hKQ⟩ : ∃ k, k = U8.heap.size := ⟨_, rfl⟩; rw [← hKQ] at HY HA HZ ⊢; have HEKQ := hide hKQ; clear hKQ; simp only [Act.put, List.setIfInBounds_toArray, List.set_cons_zero, List.set_cons_succ])
        | ((with_reducible refine wpList_store_ob (by rfl) (.tmp 11) (.tmp 134) (by rfl) KQ J.key xq nq mq (by with_unfolding_all rfl) (by with_unfolding_all rfl) _ _ _ _ (unhide HY) ?_); intro U10 HYY HEE; simp only [Act.put]; have hb : Below U8.heap.size U8 U10 := (by rw [unhide HEE, ← unhide HEKQ]; exact belowRow (unhide HA) (Nat.le_refl _) _); clear c0A c1A c2A c0C c1C c0D c1D; replace HLA := hide ((unhide HLA).below hb); replace HCC := hide (box_below (unhide HCC) hb); replace HCD := hide (box_below (unhide HCD) hb); replace HT := hide ((unhide HT).below hb); replace HBU : Hid (Below N u U10) := (unhide HBU).trans (hb.mono (unhide HNW)); replace HNW : Hid (N ≤ U10.heap.size) := Nat.le_trans (unhide HNW) hb.size; have HLQ : Hid (Lo U10 KQ J xq nq mq) := ⟨(unhide HT), unhide HYY⟩; clear hb HT HY HA HZ HYY HEE HEKQ; obtain ⟨c0A, c1A, c2A⟩ := (unhide HLA).cells; obtain ⟨c0C, c1C⟩ := ce_cells (unhide HCC); obtain ⟨c0D, c1D⟩ := ce_cells (unhide HCD); obtain ⟨c0Q, c1Q, c2Q⟩ := (unhide HLQ).cells; replace c0Q : U10.cell? ⟨KQ, 0, none⟩ = some (.string J.key) := c0Q; )
        | (go_at_call 28; refine (oPack (o := J) (unhide HLQ).toSx _ _ _ (unhide HPJ)).mono ?_; rintro e U11 ⟨rfl, hb⟩; clear c0A c1A c2A c0C c1C c0D c1D c0Q c1Q c2Q; replace HLA := hide ((unhide HLA).below hb); replace HCC := hide (box_below (unhide HCC) hb); replace HCD := hide (box_below (unhide HCD) hb); replace HLQ := hide ((unhide HLQ).below hb); replace HBU : Hid (Below N u U11) := (unhide HBU).trans (hb.mono (unhide HNW)); replace HNW : Hid (N ≤ U11.heap.size) := Nat.le_trans (unhide HNW) hb.size; clear HPJ; clear hb; obtain ⟨c0A, c1A, c2A⟩ := (unhide HLA).cells; obtain ⟨c0C, c1C⟩ := ce_cells (unhide HCC); obtain ⟨c0D, c1D⟩ := ce_cells (unhide HCD); obtain ⟨c0Q, c1Q, c2Q⟩ := (unhide HLQ).cells; replace c0Q : U11.cell? ⟨KQ, 0, none⟩ = some (.string J.key) := c0Q; )
        | ((with_reducible refine wpList_alloc_ce (by rfl) (by rfl) (some 13) (by rfl) _ rfl ?_); intro U12 HY HA HZ; obtain ⟨KR, hKR⟩ : ∃ k, k = U11.heap.size := ⟨_, rfl⟩; rw [← hKR] at HY HA HZ ⊢; have HEKR := hide hKR; clear hKR; simp only [Act.put, List.setIfInBounds_toArray, List.set_cons_zero, List.set_cons_succ])
        | ((with_reducible refine wpList_store_ce (by rfl) (.tmp 13) (.tmp 148) (by rfl) KR ck cz (by with_unfolding_all rfl) (by with_unfolding_all rfl) _ _ (unhide HY) ?_); intro U13 HYY HEE; simp only [Act.put]; have hb : Below U11.heap.size U11 U13 := (by rw [unhide HEE, ← unhide HEKR]; exact belowRow (unhide HA) (Nat.le_refl _) _); clear c0A c1A c2A c0C c1C c0D c1D c0Q c1Q c2Q; replace HLA := hide ((unhide HLA).below hb); replace HCC := hide (box_below (unhide HCC) hb); replace HCD := hide (box_below (unhide HCD) hb); replace HLQ := hide ((unhide HLQ).below hb); replace HBU : Hid (Below N u U13) := (unhide HBU).trans (hb.mono (unhide HNW)); replace HNW : Hid (N ≤ U13.heap.size) := Nat.le_trans (unhide HNW) hb.size; have HCR := HYY; clear hb HY HA HZ HYY HEE HEKR; obtain ⟨c0A, c1A, c2A⟩ := (unhide HLA).cells; obtain ⟨c0C, c1C⟩ := ce_cells (unhide HCC); obtain ⟨c0D, c1D⟩ := ce_cells (unhide HCD); obtain ⟨c0Q, c1Q, c2Q⟩ := (unhide HLQ).cells; replace c0Q : U13.cell? ⟨KQ, 0, none⟩ = some (.string J.key) := c0Q; obtain ⟨c0R, c1R⟩ := ce_cells (unhide HCR); )
        | (go_at_call 30; refine (oCheck (o := J) (unhide HLQ).toSx 0 (unhide HCJ)).mono ?_; rintro e U14 ⟨rfl, hb⟩; clear c0A c1A c2A c0C c1C c0D c1D c0Q c1Q c2Q c0R c1R; replace HLA := hide ((unhide HLA).below hb); replace HCC := hide (box_below (unhide HCC) hb); replace HCD := hide (box_below (unhide HCD) hb); replace HLQ := hide ((unhide HLQ).below hb); replace HCR := hide (box_below (unhide HCR) hb); replace HBU : Hid (Below N u U14) := (unhide HBU).trans (hb.mono (unhide HNW)); replace HNW : Hid (N ≤ U14.heap.size) := Nat.le_trans (unhide HNW) hb.size; clear hb; obtain ⟨c0A, c1A, c2A⟩ := (unhide HLA).cells; obtain ⟨c0C, c1C⟩ := ce_cells (unhide HCC); obtain ⟨c0D, c1D⟩ := ce_cells (unhide HCD); obtain ⟨c0Q, c1Q, c2Q⟩ := (unhide HLQ).cells; replace c0Q : U14.cell? ⟨KQ, 0, none⟩ = some (.string J.key) := c0Q; obtain ⟨c0R, c1R⟩ := ce_cells (unhide HCR); )
        | fail)
      go_ret
      exact ⟨rfl, unhide HBU⟩
    · have HUC := hide h
      have HUO := hide none_ok
      have HUF := hide fit_none
      clear h
      go_wp2_with (first
        | (go_at_call 19; refine (kUnpack (unhide HCZ) (unhide HUC) (unhide HUO) (unhide HUF) (u := U7)).mono ?_; rintro e U8 ⟨xq, nq, mq, rfl, hs, hb⟩; clear c0A c1A c2A c0C c1C c0D c1D; replace HLA := hide ((unhide HLA).below hb); replace HCC := hide (box_below (unhide HCC) hb); replace HCD := hide (box_below (unhide HCD) hb); replace HBU : Hid (Below N u U8) := (unhide HBU).trans (hb.mono (unhide HNW)); replace HNW : Hid (N ≤ U8.heap.size) := Nat.le_trans (unhide HNW) hb.size; have HT := hide hs; clear hs; simp only [obV]; clear hb; obtain ⟨c0A, c1A, c2A⟩ := (unhide HLA).cells; obtain ⟨c0C, c1C⟩ := ce_cells (unhide HCC); obtain ⟨c0D, c1D⟩ := ce_cells (unhide HCD); )
        | ((with_reducible refine wpList_alloc_ob (by rfl) (by rfl) (some 11) (by rfl) _ rfl ?_); intro U9 HY HA HZ; obtain ⟨KQ, hKQ⟩ : ∃ k, k = U8.heap.size := ⟨_, rfl⟩; rw [← hKQ] at HY HA HZ ⊢; have HEKQ := hide hKQ; clear hKQ; simp only [Act.put, List.setIfInBounds_toArray, List.set_cons_zero, List.set_cons_succ])
        | ((with_reducible refine wpList_store_ob (by rfl) (.tmp 11) (.tmp 134) (by rfl) KQ ⟨#[]⟩ xq nq mq (by with_unfolding_all rfl) (by with_unfolding_all rfl) _ _ _ _ (unhide HY) ?_); intro U10 HYY HEE; simp only [Act.put]; have hb : Below U8.heap.size U8 U10 := (by rw [unhide HEE, ← unhide HEKQ]; exact belowRow (unhide HA) (Nat.le_refl _) _); clear c0A c1A c2A c0C c1C c0D c1D; replace HLA := hide ((unhide HLA).below hb); replace HCC := hide (box_below (unhide HCC) hb); replace HCD := hide (box_below (unhide HCD) hb); replace HT := hide ((unhide HT).below hb); replace HBU : Hid (Below N u U10) := (unhide HBU).trans (hb.mono (unhide HNW)); replace HNW : Hid (N ≤ U10.heap.size) := Nat.le_trans (unhide HNW) hb.size; have HLQ : Hid (Lo U10 KQ Ot.none xq nq mq) := ⟨(unhide HT), unhide HYY⟩; clear hb HT HY HA HZ HYY HEE HEKQ; obtain ⟨c0A, c1A, c2A⟩ := (unhide HLA).cells; obtain ⟨c0C, c1C⟩ := ce_cells (unhide HCC); obtain ⟨c0D, c1D⟩ := ce_cells (unhide HCD); obtain ⟨c0Q, c1Q, c2Q⟩ := (unhide HLQ).cells; replace c0Q : U10.cell? ⟨KQ, 0, none⟩ = some (.string ⟨#[]⟩) := c0Q; )
        | (go_at_call 17; refine (klSame (a := Ot.none) (b := Ot.none) (unhide HLQ).toSx (Sx.none U10) true (sameO_iff.2 rfl)).mono ?_; rintro e U11 ⟨rfl, hb⟩; clear c0A c1A c2A c0C c1C c0D c1D c0Q c1Q c2Q; replace HLA := hide ((unhide HLA).below hb); replace HCC := hide (box_below (unhide HCC) hb); replace HCD := hide (box_below (unhide HCD) hb); replace HLQ := hide ((unhide HLQ).below hb); replace HBU : Hid (Below N u U11) := (unhide HBU).trans (hb.mono (unhide HNW)); replace HNW : Hid (N ≤ U11.heap.size) := Nat.le_trans (unhide HNW) hb.size; clear hb; obtain ⟨c0A, c1A, c2A⟩ := (unhide HLA).cells; obtain ⟨c0C, c1C⟩ := ce_cells (unhide HCC); obtain ⟨c0D, c1D⟩ := ce_cells (unhide HCD); obtain ⟨c0Q, c1Q, c2Q⟩ := (unhide HLQ).cells; replace c0Q : U11.cell? ⟨KQ, 0, none⟩ = some (.string ⟨#[]⟩) := c0Q; )
        | fail)
      go_ret
      exact ⟨rfl, unhide HBU⟩
  · obtain ⟨ce, hce⟩ : ∃ c, ckE o = c := ⟨_, rfl⟩
    rw [hce] at hc hp
    have HCK := hide hce
    obtain ⟨dk, hdk⟩ : ∃ b, b = eB := ⟨_, rfl⟩
    obtain ⟨dz, hdz⟩ : ∃ b, b = eB := ⟨_, rfl⟩
    have HPA : Hid (packV o = (dk, dz, ce)) := by rw [hdk, hdz]; exact hp
    have hv : ce = 110 ∨ ce ≠ 110 := by omega
    clear hp hdk hdz hce
    rcases hv with rfl | hv
    · clear hc
      go_enter Try.func7, Try.ntmps7
      go_upto_region 11 with (first
        | ((with_reducible refine wpList_box_ob (by rfl) (.tmp 0) (by rfl) (some 2) (by rfl) N (unhide HN) o.key va na ma (by with_unfolding_all rfl) ?_); intro B1 HY1 HA1 HZ1; simp only [Act.put, List.setIfInBounds_toArray, List.set_cons_zero, List.set_cons_succ])
        | ((with_reducible refine wpList_box_ce (by rfl) (.tmp 1) (by rfl) (some 3) (by rfl) (N + 1) (unhide HZ1).symm ck cz (by with_unfolding_all rfl) ?_); intro B2 HY2 HA2 HZ2; simp only [Act.put, List.setIfInBounds_toArray, List.set_cons_zero, List.set_cons_succ]; have HBU : Hid (Below N u B2) := (unhide HA1).trans ((unhide HA2).mono (by omega)); have HLA : Hid (Lo B2 N o va na ma) := ⟨(unhide HSA).below (unhide HU _ (unhide HBU)), ((unhide HA2).block N (by omega)).trans (unhide HY1)⟩; have HCC := HY2; have HNW : Hid (N ≤ B2.heap.size) := (by show N ≤ B2.heap.size; rw [unhide HZ2]; omega); clear HY1 HY2 HA1 HA2 HZ1 HZ2)
        | (go_at_call 27; refine (lWorks B2).mono ?_; rintro e U1 ⟨rfl, hb⟩; replace HLA := hide ((unhide HLA).below hb); replace HCC := hide (box_below (unhide HCC) hb); replace HBU : Hid (Below N u U1) := (unhide HBU).trans (hb.mono (unhide HNW)); replace HNW : Hid (N ≤ U1.heap.size) := Nat.le_trans (unhide HNW) hb.size; clear hb; obtain ⟨c0A, c1A, c2A⟩ := (unhide HLA).cells; obtain ⟨c0C, c1C⟩ := ce_cells (unhide HCC); )
        | (go_at_call 13; refine (kTwin U1 (unhide HLA).toSx).mono ?_; rintro e U2 ⟨x1, rfl, hs, hb⟩; clear c0A c1A c2A c0C c1C; replace HLA := hide ((unhide HLA).below hb); replace HCC := hide (box_below (unhide HCC) hb); replace HBU : Hid (Below N u U2) := (unhide HBU).trans (hb.mono (unhide HNW)); replace HNW : Hid (N ≤ U2.heap.size) := Nat.le_trans (unhide HNW) hb.size; have HT := hide hs; clear hs; clear hb; obtain ⟨c0A, c1A, c2A⟩ := (unhide HLA).cells; obtain ⟨c0C, c1C⟩ := ce_cells (unhide HCC); )
        | (go_at_call 28; refine (oPack (o := o) (unhide HT) _ _ _ (unhide HPA)).mono ?_; rintro e U3 ⟨rfl, hb⟩; clear c0A c1A c2A c0C c1C; replace HLA := hide ((unhide HLA).below hb); replace HCC := hide (box_below (unhide HCC) hb); replace HT := hide ((unhide HT).below hb); replace HBU : Hid (Below N u U3) := (unhide HBU).trans (hb.mono (unhide HNW)); replace HNW : Hid (N ≤ U3.heap.size) := Nat.le_trans (unhide HNW) hb.size; clear HT HPA; clear hb; obtain ⟨c0A, c1A, c2A⟩ := (unhide HLA).cells; obtain ⟨c0C, c1C⟩ := ce_cells (unhide HCC); )
        | ((with_reducible refine wpList_alloc_ce (by rfl) (by rfl) (some 5) (by rfl) _ rfl ?_); intro U4 HY HA HZ; obtain ⟨KD, hKD⟩ : ∃ k, k = U3.heap.size := ⟨_, rfl⟩; rw [← hKD] at HY HA HZ ⊢; have HEKD := hide hKD; clear hKD; simp only [Act.put, List.setIfInBounds_toArray, List.set_cons_zero, List.set_cons_succ])
        | ((with_reducible refine wpList_store_ce (by rfl) (.tmp 5) (.tmp 21) (by rfl) KD dk dz (by with_unfolding_all rfl) (by with_unfolding_all rfl) _ _ (unhide HY) ?_); intro U5 HYY HEE; simp only [Act.put]; have hb : Below U3.heap.size U3 U5 := (by rw [unhide HEE, ← unhide HEKD]; exact belowRow (unhide HA) (Nat.le_refl _) _); clear c0A c1A c2A c0C c1C; replace HLA := hide ((unhide HLA).below hb); replace HCC := hide (box_below (unhide HCC) hb); replace HBU : Hid (Below N u U5) := (unhide HBU).trans (hb.mono (unhide HNW)); replace HNW : Hid (N ≤ U5.heap.size) := Nat.le_trans (unhide HNW) hb.size; have HCD := HYY; clear hb HY HA HZ HYY HEE HEKD; obtain ⟨c0A, c1A, c2A⟩ := (unhide HLA).cells; obtain ⟨c0C, c1C⟩ := ce_cells (unhide HCC); obtain ⟨c0D, c1D⟩ := ce_cells (unhide HCD); )
        | (go_at_call 13; refine (kTwin U5 (unhide HLA).toSx).mono ?_; rintro e U6 ⟨x2, rfl, hs, hb⟩; clear c0A c1A c2A c0C c1C c0D c1D; replace HLA := hide ((unhide HLA).below hb); replace HCC := hide (box_below (unhide HCC) hb); replace HCD := hide (box_below (unhide HCD) hb); replace HBU : Hid (Below N u U6) := (unhide HBU).trans (hb.mono (unhide HNW)); replace HNW : Hid (N ≤ U6.heap.size) := Nat.le_trans (unhide HNW) hb.size; have HT := hide hs; clear hs; clear hb; obtain ⟨c0A, c1A, c2A⟩ := (unhide HLA).cells; obtain ⟨c0C, c1C⟩ := ce_cells (unhide HCC); obtain ⟨c0D, c1D⟩ := ce_cells (unhide HCD); )
        | (go_at_call 30; refine (oCheck (o := o) (unhide HT) _ (unhide HCK)).mono ?_; rintro e U7 ⟨rfl, hb⟩; clear c0A c1A c2A c0C c1C c0D c1D; replace HLA := hide ((unhide HLA).below hb); replace HCC := hide (box_below (unhide HCC) hb); replace HCD := hide (box_below (unhide HCD) hb); replace HT := hide ((unhide HT).below hb); replace HBU : Hid (Below N u U7) := (unhide HBU).trans (hb.mono (unhide HNW)); replace HNW : Hid (N ≤ U7.heap.size) := Nat.le_trans (unhide HNW) hb.size; clear HT; clear hb; obtain ⟨c0A, c1A, c2A⟩ := (unhide HLA).cells; obtain ⟨c0C, c1C⟩ := ce_cells (unhide HCC); obtain ⟨c0D, c1D⟩ := ce_cells (unhide HCD); )
        | fail)
      rcases unhide HJ with h | h
      · obtain ⟨J, h1, h2, h3, h4, h5⟩ := h
        have HUC := hide h1
        have HPJ := hide h2
        have HCJ := hide h3
        have HUO := hide h4
        have HUF := hide h5
        have hce : ∀ W : World, (binOp .eql 40 (.agg #[.string ck, .string cz]) (.agg #[.string ck, .string cz])).run Try.prog W = .ok (.bool true) W := fun W => by rw [eqlCl]; simp
        clear h1 h2 h3 h4 h5
        go_wp2_with (first
          | (go_at_call 19; refine (kUnpack (unhide HCZ) (unhide HUC) (unhide HUO) (unhide HUF) (u := U7)).mono ?_; rintro e U8 ⟨xq, nq, mq, rfl, hs, hb⟩; clear c0A c1A c2A c0C c1C c0D c1D; replace HLA := hide ((unhide HLA).below hb); replace HCC := hide (box_below (unhide HCC) hb); replace HCD := hide (box_below (unhide HCD) hb); replace HBU : Hid (Below N u U8) := (unhide HBU).trans (hb.mono (unhide HNW)); replace HNW : Hid (N ≤ U8.heap.size) := Nat.le_trans (unhide HNW) hb.size; have HT := hide hs; clear hs; simp only [obV]; clear hb; obtain ⟨c0A, c1A, c2A⟩ := (unhide HLA).cells; obtain ⟨c0C, c1C⟩ := ce_cells (unhide HCC); obtain ⟨c0D, c1D⟩ := ce_cells (unhide HCD); )
          | ((with_reducible refine wpList_alloc_ob (by rfl) (by rfl) (some 11) (by rfl) _ rfl ?_); intro U9 HY HA HZ; obtain ⟨KQ, hKQ⟩ : ∃ k, k = U8.heap.size := ⟨_, rfl⟩; rw [← hKQ] at HY HA HZ ⊢; have HEKQ := hide hKQ; clear hKQ; simp only [Act.put, List.setIfInBounds_toArray, List.set_cons_zero, List.set_cons_succ])
          | ((with_reducible refine wpList_store_ob (by rfl) (.tmp 11) (.tmp 134) (by rfl) KQ J.key xq nq mq (by with_unfolding_all rfl) (by with_unfolding_all rfl) _ _ _ _ (unhide HY) ?_); intro U10 HYY HEE; simp only [Act.put]; have hb : Below U8.heap.size U8 U10 := (by rw [unhide HEE, ← unhide HEKQ]; exact belowRow (unhide HA) (Nat.le_refl _) _); clear c0A c1A c2A c0C c1C c0D c1D; replace HLA := hide ((unhide HLA).below hb); replace HCC := hide (box_below (unhide HCC) hb); replace HCD := hide (box_below (unhide HCD) hb); replace HT := hide ((unhide HT).below hb); replace HBU : Hid (Below N u U10) := (unhide HBU).trans (hb.mono (unhide HNW)); replace HNW : Hid (N ≤ U10.heap.size) := Nat.le_trans (unhide HNW) hb.size; have HLQ : Hid (Lo U10 KQ J xq nq mq) := ⟨(unhide HT), unhide HYY⟩; clear hb HT HY HA HZ HYY HEE HEKQ; obtain ⟨c0A, c1A, c2A⟩ := (unhide HLA).cells; obtain ⟨c0C, c1C⟩ := ce_cells (unhide HCC); obtain ⟨c0D, c1D⟩ := ce_cells (unhide HCD); obtain ⟨c0Q, c1Q, c2Q⟩ := (unhide HLQ).cells; replace c0Q : U10.cell? ⟨KQ, 0, none⟩ = some (.string J.key) := c0Q; )
          | (go_at_call 28; refine (oPack (o := J) (unhide HLQ).toSx _ _ _ (unhide HPJ)).mono ?_; rintro e U11 ⟨rfl, hb⟩; clear c0A c1A c2A c0C c1C c0D c1D c0Q c1Q c2Q; replace HLA := hide ((unhide HLA).below hb); replace HCC := hide (box_below (unhide HCC) hb); replace HCD := hide (box_below (unhide HCD) hb); replace HLQ := hide ((unhide HLQ).below hb); replace HBU : Hid (Below N u U11) := (unhide HBU).trans (hb.mono (unhide HNW)); replace HNW : Hid (N ≤ U11.heap.size) := Nat.le_trans (unhide HNW) hb.size; clear HPJ; clear hb; obtain ⟨c0A, c1A, c2A⟩ := (unhide HLA).cells; obtain ⟨c0C, c1C⟩ := ce_cells (unhide HCC); obtain ⟨c0D, c1D⟩ := ce_cells (unhide HCD); obtain ⟨c0Q, c1Q, c2Q⟩ := (unhide HLQ).cells; replace c0Q : U11.cell? ⟨KQ, 0, none⟩ = some (.string J.key) := c0Q; )
          | ((with_reducible refine wpList_alloc_ce (by rfl) (by rfl) (some 13) (by rfl) _ rfl ?_); intro U12 HY HA HZ; obtain ⟨KR, hKR⟩ : ∃ k, k = U11.heap.size := ⟨_, rfl⟩; rw [← hKR] at HY HA HZ ⊢; have HEKR := hide hKR; clear hKR; simp only [Act.put, List.setIfInBounds_toArray, List.set_cons_zero, List.set_cons_succ])
          | ((with_reducible refine wpList_store_ce (by rfl) (.tmp 13) (.tmp 148) (by rfl) KR ck cz (by with_unfolding_all rfl) (by with_unfolding_all rfl) _ _ (unhide HY) ?_); intro U13 HYY HEE; simp only [Act.put]; have hb : Below U11.heap.size U11 U13 := (by rw [unhide HEE, ← unhide HEKR]; exact belowRow (unhide HA) (Nat.le_refl _) _); clear c0A c1A c2A c0C c1C c0D c1D c0Q c1Q c2Q; replace HLA := hide ((unhide HLA).below hb); replace HCC := hide (box_below (unhide HCC) hb); replace HCD := hide (box_below (unhide HCD) hb); replace HLQ := hide ((unhide HLQ).below hb); replace HBU : Hid (Below N u U13) := (unhide HBU).trans (hb.mono (unhide HNW)); replace HNW : Hid (N ≤ U13.heap.size) := Nat.le_trans (unhide HNW) hb.size; have HCR := HYY; clear hb HY HA HZ HYY HEE HEKR; obtain ⟨c0A, c1A, c2A⟩ := (unhide HLA).cells; obtain ⟨c0C, c1C⟩ := ce_cells (unhide HCC); obtain ⟨c0D, c1D⟩ := ce_cells (unhide HCD); obtain ⟨c0Q, c1Q, c2Q⟩ := (unhide HLQ).cells; replace c0Q : U13.cell? ⟨KQ, 0, none⟩ = some (.string J.key) := c0Q; obtain ⟨c0R, c1R⟩ := ce_cells (unhide HCR); )
          | (go_at_call 30; refine (oCheck (o := J) (unhide HLQ).toSx 0 (unhide HCJ)).mono ?_; rintro e U14 ⟨rfl, hb⟩; clear c0A c1A c2A c0C c1C c0D c1D c0Q c1Q c2Q c0R c1R; replace HLA := hide ((unhide HLA).below hb); replace HCC := hide (box_below (unhide HCC) hb); replace HCD := hide (box_below (unhide HCD) hb); replace HLQ := hide ((unhide HLQ).below hb); replace HCR := hide (box_below (unhide HCR) hb); replace HBU : Hid (Below N u U14) := (unhide HBU).trans (hb.mono (unhide HNW)); replace HNW : Hid (N ≤ U14.heap.size) := Nat.le_trans (unhide HNW) hb.size; clear hb; obtain ⟨c0A, c1A, c2A⟩ := (unhide HLA).cells; obtain ⟨c0C, c1C⟩ := ce_cells (unhide HCC); obtain ⟨c0D, c1D⟩ := ce_cells (unhide HCD); obtain ⟨c0Q, c1Q, c2Q⟩ := (unhide HLQ).cells; replace c0Q : U14.cell? ⟨KQ, 0, none⟩ = some (.string J.key) := c0Q; obtain ⟨c0R, c1R⟩ := ce_cells (unhide HCR); )
          | fail)
        go_ret
        exact ⟨rfl, unhide HBU⟩
      · have HUC := hide h
        have HUO := hide none_ok
        have HUF := hide fit_none
        clear h
        go_wp2_with (first
          | (go_at_call 19; refine (kUnpack (unhide HCZ) (unhide HUC) (unhide HUO) (unhide HUF) (u := U7)).mono ?_; rintro e U8 ⟨xq, nq, mq, rfl, hs, hb⟩; clear c0A c1A c2A c0C c1C c0D c1D; replace HLA := hide ((unhide HLA).below hb); replace HCC := hide (box_below (unhide HCC) hb); replace HCD := hide (box_below (unhide HCD) hb); replace HBU : Hid (Below N u U8) := (unhide HBU).trans (hb.mono (unhide HNW)); replace HNW : Hid (N ≤ U8.heap.size) := Nat.le_trans (unhide HNW) hb.size; have HT := hide hs; clear hs; simp only [obV]; clear hb; obtain ⟨c0A, c1A, c2A⟩ := (unhide HLA).cells; obtain ⟨c0C, c1C⟩ := ce_cells (unhide HCC); obtain ⟨c0D, c1D⟩ := ce_cells (unhide HCD); )
          | ((with_reducible refine wpList_alloc_ob (by rfl) (by rfl) (some 11) (by rfl) _ rfl ?_); intro U9 HY HA HZ; obtain ⟨KQ, hKQ⟩ : ∃ k, k = U8.heap.size := ⟨_, rfl⟩; rw [← hKQ] at HY HA HZ ⊢; have HEKQ := hide hKQ; clear hKQ; simp only [Act.put, List.setIfInBounds_toArray, List.set_cons_zero, List.set_cons_succ])
          | ((with_reducible refine wpList_store_ob (by rfl) (.tmp 11) (.tmp 134) (by rfl) KQ ⟨#[]⟩ xq nq mq (by with_unfolding_all rfl) (by with_unfolding_all rfl) _ _ _ _ (unhide HY) ?_); intro U10 HYY HEE; simp only [Act.put]; have hb : Below U8.heap.size U8 U10 := (by rw [unhide HEE, ← unhide HEKQ]; exact belowRow (unhide HA) (Nat.le_refl _) _); clear c0A c1A c2A c0C c1C c0D c1D; replace HLA := hide ((unhide HLA).below hb); replace HCC := hide (box_below (unhide HCC) hb); replace HCD := hide (box_below (unhide HCD) hb); replace HT := hide ((unhide HT).below hb); replace HBU : Hid (Below N u U10) := (unhide HBU).trans (hb.mono (unhide HNW)); replace HNW : Hid (N ≤ U10.heap.size) := Nat.le_trans (unhide HNW) hb.size; have HLQ : Hid (Lo U10 KQ Ot.none xq nq mq) := ⟨(unhide HT), unhide HYY⟩; clear hb HT HY HA HZ HYY HEE HEKQ; obtain ⟨c0A, c1A, c2A⟩ := (unhide HLA).cells; obtain ⟨c0C, c1C⟩ := ce_cells (unhide HCC); obtain ⟨c0D, c1D⟩ := ce_cells (unhide HCD); obtain ⟨c0Q, c1Q, c2Q⟩ := (unhide HLQ).cells; replace c0Q : U10.cell? ⟨KQ, 0, none⟩ = some (.string ⟨#[]⟩) := c0Q; )
          | (go_at_call 17; refine (klSame (a := Ot.none) (b := Ot.none) (unhide HLQ).toSx (Sx.none U10) true (sameO_iff.2 rfl)).mono ?_; rintro e U11 ⟨rfl, hb⟩; clear c0A c1A c2A c0C c1C c0D c1D c0Q c1Q c2Q; replace HLA := hide ((unhide HLA).below hb); replace HCC := hide (box_below (unhide HCC) hb); replace HCD := hide (box_below (unhide HCD) hb); replace HLQ := hide ((unhide HLQ).below hb); replace HBU : Hid (Below N u U11) := (unhide HBU).trans (hb.mono (unhide HNW)); replace HNW : Hid (N ≤ U11.heap.size) := Nat.le_trans (unhide HNW) hb.size; clear hb; obtain ⟨c0A, c1A, c2A⟩ := (unhide HLA).cells; obtain ⟨c0C, c1C⟩ := ce_cells (unhide HCC); obtain ⟨c0D, c1D⟩ := ce_cells (unhide HCD); obtain ⟨c0Q, c1Q, c2Q⟩ := (unhide HLQ).cells; replace c0Q : U11.cell? ⟨KQ, 0, none⟩ = some (.string ⟨#[]⟩) := c0Q; )
          | fail)
        go_ret
        exact ⟨rfl, unhide HBU⟩
    · have h1 : (ce == 0) = false := beq_eq_false_iff_ne.2 hc
      have h2 : (ce == 110) = false := beq_eq_false_iff_ne.2 hv
      go_enter Try.func7, Try.ntmps7
      go_upto_region 11 with (first
        | ((with_reducible refine wpList_box_ob (by rfl) (.tmp 0) (by rfl) (some 2) (by rfl) N (unhide HN) o.key va na ma (by with_unfolding_all rfl) ?_); intro B1 HY1 HA1 HZ1; simp only [Act.put, List.setIfInBounds_toArray, List.set_cons_zero, List.set_cons_succ])
        | ((with_reducible refine wpList_box_ce (by rfl) (.tmp 1) (by rfl) (some 3) (by rfl) (N + 1) (unhide HZ1).symm ck cz (by with_unfolding_all rfl) ?_); intro B2 HY2 HA2 HZ2; simp only [Act.put, List.setIfInBounds_toArray, List.set_cons_zero, List.set_cons_succ]; have HBU : Hid (Below N u B2) := (unhide HA1).trans ((unhide HA2).mono (by omega)); have HLA : Hid (Lo B2 N o va na ma) := ⟨(unhide HSA).below (unhide HU _ (unhide HBU)), ((unhide HA2).block N (by omega)).trans (unhide HY1)⟩; have HCC := HY2; have HNW : Hid (N ≤ B2.heap.size) := (by show N ≤ B2.heap.size; rw [unhide HZ2]; omega); clear HY1 HY2 HA1 HA2 HZ1 HZ2)
        | (go_at_call 27; refine (lWorks B2).mono ?_; rintro e U1 ⟨rfl, hb⟩; replace HLA := hide ((unhide HLA).below hb); replace HCC := hide (box_below (unhide HCC) hb); replace HBU : Hid (Below N u U1) := (unhide HBU).trans (hb.mono (unhide HNW)); replace HNW : Hid (N ≤ U1.heap.size) := Nat.le_trans (unhide HNW) hb.size; clear hb; obtain ⟨c0A, c1A, c2A⟩ := (unhide HLA).cells; obtain ⟨c0C, c1C⟩ := ce_cells (unhide HCC); )
        | (go_at_call 13; refine (kTwin U1 (unhide HLA).toSx).mono ?_; rintro e U2 ⟨x1, rfl, hs, hb⟩; clear c0A c1A c2A c0C c1C; replace HLA := hide ((unhide HLA).below hb); replace HCC := hide (box_below (unhide HCC) hb); replace HBU : Hid (Below N u U2) := (unhide HBU).trans (hb.mono (unhide HNW)); replace HNW : Hid (N ≤ U2.heap.size) := Nat.le_trans (unhide HNW) hb.size; have HT := hide hs; clear hs; clear hb; obtain ⟨c0A, c1A, c2A⟩ := (unhide HLA).cells; obtain ⟨c0C, c1C⟩ := ce_cells (unhide HCC); )
        | (go_at_call 28; refine (oPack (o := o) (unhide HT) _ _ _ (unhide HPA)).mono ?_; rintro e U3 ⟨rfl, hb⟩; clear c0A c1A c2A c0C c1C; replace HLA := hide ((unhide HLA).below hb); replace HCC := hide (box_below (unhide HCC) hb); replace HT := hide ((unhide HT).below hb); replace HBU : Hid (Below N u U3) := (unhide HBU).trans (hb.mono (unhide HNW)); replace HNW : Hid (N ≤ U3.heap.size) := Nat.le_trans (unhide HNW) hb.size; clear HT HPA; clear hb; obtain ⟨c0A, c1A, c2A⟩ := (unhide HLA).cells; obtain ⟨c0C, c1C⟩ := ce_cells (unhide HCC); )
        | ((with_reducible refine wpList_alloc_ce (by rfl) (by rfl) (some 5) (by rfl) _ rfl ?_); intro U4 HY HA HZ; obtain ⟨KD, hKD⟩ : ∃ k, k = U3.heap.size := ⟨_, rfl⟩; rw [← hKD] at HY HA HZ ⊢; have HEKD := hide hKD; clear hKD; simp only [Act.put, List.setIfInBounds_toArray, List.set_cons_zero, List.set_cons_succ])
        | ((with_reducible refine wpList_store_ce (by rfl) (.tmp 5) (.tmp 21) (by rfl) KD dk dz (by with_unfolding_all rfl) (by with_unfolding_all rfl) _ _ (unhide HY) ?_); intro U5 HYY HEE; simp only [Act.put]; have hb : Below U3.heap.size U3 U5 := (by rw [unhide HEE, ← unhide HEKD]; exact belowRow (unhide HA) (Nat.le_refl _) _); clear c0A c1A c2A c0C c1C; replace HLA := hide ((unhide HLA).below hb); replace HCC := hide (box_below (unhide HCC) hb); replace HBU : Hid (Below N u U5) := (unhide HBU).trans (hb.mono (unhide HNW)); replace HNW : Hid (N ≤ U5.heap.size) := Nat.le_trans (unhide HNW) hb.size; have HCD := HYY; clear hb HY HA HZ HYY HEE HEKD; obtain ⟨c0A, c1A, c2A⟩ := (unhide HLA).cells; obtain ⟨c0C, c1C⟩ := ce_cells (unhide HCC); obtain ⟨c0D, c1D⟩ := ce_cells (unhide HCD); )
        | (go_at_call 13; refine (kTwin U5 (unhide HLA).toSx).mono ?_; rintro e U6 ⟨x2, rfl, hs, hb⟩; clear c0A c1A c2A c0C c1C c0D c1D; replace HLA := hide ((unhide HLA).below hb); replace HCC := hide (box_below (unhide HCC) hb); replace HCD := hide (box_below (unhide HCD) hb); replace HBU : Hid (Below N u U6) := (unhide HBU).trans (hb.mono (unhide HNW)); replace HNW : Hid (N ≤ U6.heap.size) := Nat.le_trans (unhide HNW) hb.size; have HT := hide hs; clear hs; clear hb; obtain ⟨c0A, c1A, c2A⟩ := (unhide HLA).cells; obtain ⟨c0C, c1C⟩ := ce_cells (unhide HCC); obtain ⟨c0D, c1D⟩ := ce_cells (unhide HCD); )
        | (go_at_call 30; refine (oCheck (o := o) (unhide HT) _ (unhide HCK)).mono ?_; rintro e U7 ⟨rfl, hb⟩; clear c0A c1A c2A c0C c1C c0D c1D; replace HLA := hide ((unhide HLA).below hb); replace HCC := hide (box_below (unhide HCC) hb); replace HCD := hide (box_below (unhide HCD) hb); replace HT := hide ((unhide HT).below hb); replace HBU : Hid (Below N u U7) := (unhide HBU).trans (hb.mono (unhide HNW)); replace HNW : Hid (N ≤ U7.heap.size) := Nat.le_trans (unhide HNW) hb.size; clear HT; clear hb; obtain ⟨c0A, c1A, c2A⟩ := (unhide HLA).cells; obtain ⟨c0C, c1C⟩ := ce_cells (unhide HCC); obtain ⟨c0D, c1D⟩ := ce_cells (unhide HCD); )
        | fail)
      rcases unhide HJ with h | h
      · obtain ⟨J, h1, h2, h3, h4, h5⟩ := h
        have HUC := hide h1
        have HPJ := hide h2
        have HCJ := hide h3
        have HUO := hide h4
        have HUF := hide h5
        have hce : ∀ W : World, (binOp .eql 40 (.agg #[.string ck, .string cz]) (.agg #[.string ck, .string cz])).run Try.prog W = .ok (.bool true) W := fun W => by rw [eqlCl]; simp
        clear h1 h2 h3 h4 h5
        go_wp2_with (first
          | (go_at_call 19; refine (kUnpack (unhide HCZ) (unhide HUC) (unhide HUO) (unhide HUF) (u := U7)).mono ?_; rintro e U8 ⟨xq, nq, mq, rfl, hs, hb⟩; clear c0A c1A c2A c0C c1C c0D c1D; replace HLA := hide ((unhide HLA).below hb); replace HCC := hide (box_below (unhide HCC) hb); replace HCD := hide (box_below (unhide HCD) hb); replace HBU : Hid (Below N u U8) := (unhide HBU).trans (hb.mono (unhide HNW)); replace HNW : Hid (N ≤ U8.heap.size) := Nat.le_trans (unhide HNW) hb.size; have HT := hide hs; clear hs; simp only [obV]; clear hb; obtain ⟨c0A, c1A, c2A⟩ := (unhide HLA).cells; obtain ⟨c0C, c1C⟩ := ce_cells (unhide HCC); obtain ⟨c0D, c1D⟩ := ce_cells (unhide HCD); )
          | ((with_reducible refine wpList_alloc_ob (by rfl) (by rfl) (some 11) (by rfl) _ rfl ?_); intro U9 HY HA HZ; obtain ⟨KQ, hKQ⟩ : ∃ k, k = U8.heap.size := ⟨_, rfl⟩; rw [← hKQ] at HY HA HZ ⊢; have HEKQ := hide hKQ; clear hKQ; simp only [Act.put, List.setIfInBounds_toArray, List.set_cons_zero, List.set_cons_succ])
          | ((with_reducible refine wpList_store_ob (by rfl) (.tmp 11) (.tmp 134) (by rfl) KQ J.key xq nq mq (by with_unfolding_all rfl) (by with_unfolding_all rfl) _ _ _ _ (unhide HY) ?_); intro U10 HYY HEE; simp only [Act.put]; have hb : Below U8.heap.size U8 U10 := (by rw [unhide HEE, ← unhide HEKQ]; exact belowRow (unhide HA) (Nat.le_refl _) _); clear c0A c1A c2A c0C c1C c0D c1D; replace HLA := hide ((unhide HLA).below hb); replace HCC := hide (box_below (unhide HCC) hb); replace HCD := hide (box_below (unhide HCD) hb); replace HT := hide ((unhide HT).below hb); replace HBU : Hid (Below N u U10) := (unhide HBU).trans (hb.mono (unhide HNW)); replace HNW : Hid (N ≤ U10.heap.size) := Nat.le_trans (unhide HNW) hb.size; have HLQ : Hid (Lo U10 KQ J xq nq mq) := ⟨(unhide HT), unhide HYY⟩; clear hb HT HY HA HZ HYY HEE HEKQ; obtain ⟨c0A, c1A, c2A⟩ := (unhide HLA).cells; obtain ⟨c0C, c1C⟩ := ce_cells (unhide HCC); obtain ⟨c0D, c1D⟩ := ce_cells (unhide HCD); obtain ⟨c0Q, c1Q, c2Q⟩ := (unhide HLQ).cells; replace c0Q : U10.cell? ⟨KQ, 0, none⟩ = some (.string J.key) := c0Q; )
          | (go_at_call 28; refine (oPack (o := J) (unhide HLQ).toSx _ _ _ (unhide HPJ)).mono ?_; rintro e U11 ⟨rfl, hb⟩; clear c0A c1A c2A c0C c1C c0D c1D c0Q c1Q c2Q; replace HLA := hide ((unhide HLA).below hb); replace HCC := hide (box_below (unhide HCC) hb); replace HCD := hide (box_below (unhide HCD) hb); replace HLQ := hide ((unhide HLQ).below hb); replace HBU : Hid (Below N u U11) := (unhide HBU).trans (hb.mono (unhide HNW)); replace HNW : Hid (N ≤ U11.heap.size) := Nat.le_trans (unhide HNW) hb.size; clear HPJ; clear hb; obtain ⟨c0A, c1A, c2A⟩ := (unhide HLA).cells; obtain ⟨c0C, c1C⟩ := ce_cells (unhide HCC); obtain ⟨c0D, c1D⟩ := ce_cells (unhide HCD); obtain ⟨c0Q, c1Q, c2Q⟩ := (unhide HLQ).cells; replace c0Q : U11.cell? ⟨KQ, 0, none⟩ = some (.string J.key) := c0Q; )
          | ((with_reducible refine wpList_alloc_ce (by rfl) (by rfl) (some 13) (by rfl) _ rfl ?_); intro U12 HY HA HZ; obtain ⟨KR, hKR⟩ : ∃ k, k = U11.heap.size := ⟨_, rfl⟩; rw [← hKR] at HY HA HZ ⊢; have HEKR := hide hKR; clear hKR; simp only [Act.put, List.setIfInBounds_toArray, List.set_cons_zero, List.set_cons_succ])
          | ((with_reducible refine wpList_store_ce (by rfl) (.tmp 13) (.tmp 148) (by rfl) KR ck cz (by with_unfolding_all rfl) (by with_unfolding_all rfl) _ _ (unhide HY) ?_); intro U13 HYY HEE; simp only [Act.put]; have hb : Below U11.heap.size U11 U13 := (by rw [unhide HEE, ← unhide HEKR]; exact belowRow (unhide HA) (Nat.le_refl _) _); clear c0A c1A c2A c0C c1C c0D c1D c0Q c1Q c2Q; replace HLA := hide ((unhide HLA).below hb); replace HCC := hide (box_below (unhide HCC) hb); replace HCD := hide (box_below (unhide HCD) hb); replace HLQ := hide ((unhide HLQ).below hb); replace HBU : Hid (Below N u U13) := (unhide HBU).trans (hb.mono (unhide HNW)); replace HNW : Hid (N ≤ U13.heap.size) := Nat.le_trans (unhide HNW) hb.size; have HCR := HYY; clear hb HY HA HZ HYY HEE HEKR; obtain ⟨c0A, c1A, c2A⟩ := (unhide HLA).cells; obtain ⟨c0C, c1C⟩ := ce_cells (unhide HCC); obtain ⟨c0D, c1D⟩ := ce_cells (unhide HCD); obtain ⟨c0Q, c1Q, c2Q⟩ := (unhide HLQ).cells; replace c0Q : U13.cell? ⟨KQ, 0, none⟩ = some (.string J.key) := c0Q; obtain ⟨c0R, c1R⟩ := ce_cells (unhide HCR); )
          | (go_at_call 30; refine (oCheck (o := J) (unhide HLQ).toSx 0 (unhide HCJ)).mono ?_; rintro e U14 ⟨rfl, hb⟩; clear c0A c1A c2A c0C c1C c0D c1D c0Q c1Q c2Q c0R c1R; replace HLA := hide ((unhide HLA).below hb); replace HCC := hide (box_below (unhide HCC) hb); replace HCD := hide (box_below (unhide HCD) hb); replace HLQ := hide ((unhide HLQ).below hb); replace HCR := hide (box_below (unhide HCR) hb); replace HBU : Hid (Below N u U14) := (unhide HBU).trans (hb.mono (unhide HNW)); replace HNW : Hid (N ≤ U14.heap.size) := Nat.le_trans (unhide HNW) hb.size; clear hb; obtain ⟨c0A, c1A, c2A⟩ := (unhide HLA).cells; obtain ⟨c0C, c1C⟩ := ce_cells (unhide HCC); obtain ⟨c0D, c1D⟩ := ce_cells (unhide HCD); obtain ⟨c0Q, c1Q, c2Q⟩ := (unhide HLQ).cells; replace c0Q : U14.cell? ⟨KQ, 0, none⟩ = some (.string J.key) := c0Q; obtain ⟨c0R, c1R⟩ := ce_cells (unhide HCR); )
          | fail)
        go_ret
        exact ⟨rfl, unhide HBU⟩
      · have HUC := hide h
        have HUO := hide none_ok
        have HUF := hide fit_none
        clear h
        go_wp2_with (first
          | (go_at_call 19; refine (kUnpack (unhide HCZ) (unhide HUC) (unhide HUO) (unhide HUF) (u := U7)).mono ?_; rintro e U8 ⟨xq, nq, mq, rfl, hs, hb⟩; clear c0A c1A c2A c0C c1C c0D c1D; replace HLA := hide ((unhide HLA).below hb); replace HCC := hide (box_below (unhide HCC) hb); replace HCD := hide (box_below (unhide HCD) hb); replace HBU : Hid (Below N u U8) := (unhide HBU).trans (hb.mono (unhide HNW)); replace HNW : Hid (N ≤ U8.heap.size) := Nat.le_trans (unhide HNW) hb.size; have HT := hide hs; clear hs; simp only [obV]; clear hb; obtain ⟨c0A, c1A, c2A⟩ := (unhide HLA).cells; obtain ⟨c0C, c1C⟩ := ce_cells (unhide HCC); obtain ⟨c0D, c1D⟩ := ce_cells (unhide HCD); )
          | ((with_reducible refine wpList_alloc_ob (by rfl) (by rfl) (some 11) (by rfl) _ rfl ?_); intro U9 HY HA HZ; obtain ⟨KQ, hKQ⟩ : ∃ k, k = U8.heap.size := ⟨_, rfl⟩; rw [← hKQ] at HY HA HZ ⊢; have HEKQ := hide hKQ; clear hKQ; simp only [Act.put, List.setIfInBounds_toArray, List.set_cons_zero, List.set_cons_succ])
          | ((with_reducible refine wpList_store_ob (by rfl) (.tmp 11) (.tmp 134) (by rfl) KQ ⟨#[]⟩ xq nq mq (by with_unfolding_all rfl) (by with_unfolding_all rfl) _ _ _ _ (unhide HY) ?_); intro U10 HYY HEE; simp only [Act.put]; have hb : Below U8.heap.size U8 U10 := (by rw [unhide HEE, ← unhide HEKQ]; exact belowRow (unhide HA) (Nat.le_refl _) _); clear c0A c1A c2A c0C c1C c0D c1D; replace HLA := hide ((unhide HLA).below hb); replace HCC := hide (box_below (unhide HCC) hb); replace HCD := hide (box_below (unhide HCD) hb); replace HT := hide ((unhide HT).below hb); replace HBU : Hid (Below N u U10) := (unhide HBU).trans (hb.mono (unhide HNW)); replace HNW : Hid (N ≤ U10.heap.size) := Nat.le_trans (unhide HNW) hb.size; have HLQ : Hid (Lo U10 KQ Ot.none xq nq mq) := ⟨(unhide HT), unhide HYY⟩; clear hb HT HY HA HZ HYY HEE HEKQ; obtain ⟨c0A, c1A, c2A⟩ := (unhide HLA).cells; obtain ⟨c0C, c1C⟩ := ce_cells (unhide HCC); obtain ⟨c0D, c1D⟩ := ce_cells (unhide HCD); obtain ⟨c0Q, c1Q, c2Q⟩ := (unhide HLQ).cells; replace c0Q : U10.cell? ⟨KQ, 0, none⟩ = some (.string ⟨#[]⟩) := c0Q; )
          | (go_at_call 17; refine (klSame (a := Ot.none) (b := Ot.none) (unhide HLQ).toSx (Sx.none U10) true (sameO_iff.2 rfl)).mono ?_; rintro e U11 ⟨rfl, hb⟩; clear c0A c1A c2A c0C c1C c0D c1D c0Q c1Q c2Q; replace HLA := hide ((unhide HLA).below hb); replace HCC := hide (box_below (unhide HCC) hb); replace HCD := hide (box_below (unhide HCD) hb); replace HLQ := hide ((unhide HLQ).below hb); replace HBU : Hid (Below N u U11) := (unhide HBU).trans (hb.mono (unhide HNW)); replace HNW : Hid (N ≤ U11.heap.size) := Nat.le_trans (unhide HNW) hb.size; clear hb; obtain ⟨c0A, c1A, c2A⟩ := (unhide HLA).cells; obtain ⟨c0C, c1C⟩ := ce_cells (unhide HCC); obtain ⟨c0D, c1D⟩ := ce_cells (unhide HCD); obtain ⟨c0Q, c1Q, c2Q⟩ := (unhide HLQ).cells; replace c0Q : U11.cell? ⟨KQ, 0, none⟩ = some (.string ⟨#[]⟩) := c0Q; )
          | fail)
        go_ret
        exact ⟨rfl, unhide HBU⟩
end Go.Proofs.Ytkcbljmjhlnjpaa
