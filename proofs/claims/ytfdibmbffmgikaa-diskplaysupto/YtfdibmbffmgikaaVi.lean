/- The disk's laws, beside the document's disk: a loss of power. -/
import Derived.Test.YtfdibmbffmgikaaVh
namespace Go.Proofs.Ytfdibmbffmgikaa
open Go.RowKit Go.Lib

theorem fateUnd : Try.prog.underlying 27 = some (.struct (match Try.prog.underlying 27 with | some (.struct fs) => fs | _ => #[])) := by kernel_rfl
theorem fateInfo : (Try.prog.info? 27).map (·.size) = some 3 := by kernel_rfl
def fate0 : Array Value := #[.slice none 0 0, .int .i64 0, .int .i64 0]
theorem fateZero : ((Try.prog.info? 27).bind (·.zero)).map (·.cells) = some fate0 := by kernel_rfl
theorem ixBools (g o n c i : Nat) (hi : i < n) (W : World) : (Instr.indexAt 25 (.slice (some ⟨g, o, none⟩) n c) (.int .i64 (i : Int))).run Try.prog W = .ok (.pointer (some ⟨g, o + i, none⟩)) W := by
  have he : Try.prog.elem 25 = 4 := by kernel_rfl
  rw [run_indexAt_slice W 25 _ _ _ _ _ (by rw [he]; kernel_rfl), if_pos ⟨by omega, by omega⟩, he, size_of (n := 1) (by kernel_rfl)]
  simp only [Result.andThen_ok, Int.toNat_natCast, Addr.add_mid, Nat.mul_one]
def bv (ks : List Bool) : List Value := ks.map Value.bool
theorem copyBools (u : World) (B : Nat) (ks : List Bool) (ao : Option Addr) (cap : Nat) (h : Kb u B ao ks) (hn : ks.length ≤ 1048576) :
    ∃ ao' cap' W', (Builtin.append_ #[25, 25] 25 #[.slice (some ⟨u.heap.size, 0, none⟩) 0 0, .slice ao ks.length cap]).run Try.prog (u.alloc (.cells #[] 4)) = .ok (.slice ao' ks.length cap') W' ∧ W'.ownsRow u.heap.size 4 1 (.slice ao' ks.length cap') ks.length (bv ks) ∧ Below u.heap.size u W' := by
  obtain ⟨i0, hi, hz0, hz1, hz2⟩ := info_parts infoBo
  have hb0 : Below u.heap.size u (u.alloc (.cells #[] 4)) := (Below.refl _ _).alloc (Nat.le_refl _) _
  have hown : (u.alloc (.cells #[] 4)).ownsRow u.heap.size 4 1 (.slice (some ⟨u.heap.size, 0, none⟩) 0 0) 0 [] := World.ownsRow_made u #[] 0 (Nat.le_refl _) (by decide) rfl
  by_cases h0 : 0 < ks.length
  · obtain ⟨g, o, rfl, hg, hc⟩ := h h0
    obtain ⟨v', W', hr, ho, hg', hnw⟩ := run_append_own' (P := Try.prog) (u.alloc (.cells #[] 4)) u.heap.size 25 25 4 i0 (.bool false) 1 1 Try.underlying25 hi hz0 hz1 hz2 rfl (by decide) _ 0 [] hown ⟨g, o, none⟩ ks.length cap (bv ks) (by simp [bv]) (fun j x hx => by
      have hj : j < ks.length := by have := (List.getElem?_eq_some_iff.1 hx).1; simpa [bv] using this
      have := hc j hj
      rw [Addr.add_mid, World.cell?_alloc_lt _ _ _ (World.block_lt_of_cell? u _ this), this, ← hx]
      simp [bv, hj]) (fun x hx => by obtain ⟨s, _, rfl⟩ := List.mem_map.1 hx; rfl) (by simp only [maxLen]; omega) (by omega) (by simp)
    rw [Nat.zero_add, List.nil_append] at ho
    have hbel : Below u.heap.size u W' := hb0.grown hg' hb0.size (fun k e => by simp [Value.ownBlock] at e; omega)
    obtain ⟨ao', cap', rfl⟩ := ownsRow_len ho
    exact ⟨_, _, W', hr, ho, hbel⟩
  · have hz : ks = [] := List.eq_nil_of_length_eq_zero (by omega)
    subst hz
    exact ⟨_, _, _, append_nothing _ _ _ _ Try.underlying25 hi _ 0 0 cap ao (Nat.le_refl _), hown, hb0⟩
theorem crashPrep (u : World) (B : Nat) (ks : List Bool) (ao : Option Addr) (cap n : Nat) (hnn : n = ks.length) (h : Kb u B ao ks) (hn : ks.length ≤ 1048576) :
    ∃ ao1 c1 W2 g c W3, (Builtin.append_ #[25, 25] 25 #[.slice (some ⟨u.heap.size, 0, none⟩) 0 0, .slice ao n cap]).run Try.prog (u.alloc (.cells #[] 4)) = .ok (.slice ao1 n c1) W2 ∧
      (Builtin.append_ #[25, 25] 25 #[.slice ao1 n c1, .slice (some ⟨W2.heap.size, 0, none⟩) 1 1]).run Try.prog (W2.alloc (.cells #[.bool true] 4)) = .ok (.slice (some ⟨g, 0, none⟩) (n + 1) c) W3 ∧
      Hid (W3.ownsRow 0 4 1 (.slice (some ⟨g, 0, none⟩) (n + 1) c) (n + 1) (bv ks ++ [.bool true]) ∧ Below u.heap.size u W3 ∧ u.heap.size ≤ g ∧ n + 1 ≤ c ∧ g < W3.heap.size) := by
  subst hnn
  obtain ⟨i0, hi, hz0, hz1, hz2⟩ := info_parts infoBo
  obtain ⟨ao1, c1, W2, hr1, ho1, hb1⟩ := copyBools u B ks ao cap h hn
  have hown : (W2.alloc (.cells #[.bool true] 4)).ownsRow u.heap.size 4 1 (.slice ao1 ks.length c1) ks.length (bv ks) := ownsRow_keep ho1 fun q hq => Deep.blk_alloc_lt W2 _ q (ho1.lt q hq).2
  obtain ⟨v', W3, hr2, ho2, hg2, hnw⟩ := run_append_own' (P := Try.prog) (W2.alloc (.cells #[.bool true] 4)) u.heap.size 25 25 4 i0 (.bool false) 1 1 Try.underlying25 hi hz0 hz1 hz2 rfl (by decide) _ ks.length (bv ks) hown ⟨W2.heap.size, 0, none⟩ 1 1 [.bool true] rfl (fun j y hy => by
    rw [Addr.add_mid, Nat.zero_add, cell_of_row _ W2.heap.size j _ _ _ (heap_alloc_new W2 _)]
    simpa using hy) (fun y hy => by rw [List.mem_singleton.1 hy]; rfl) (by simp only [maxLen]; omega) (by omega) (by have := hb1.size; simp; omega)
  have hb2 : Below u.heap.size u (W2.alloc (.cells #[.bool true] 4)) := hb1.alloc hb1.size _
  have hb3 : Below u.heap.size u W3 := hb2.grown hg2 hb2.size (fun k e => (hown.lt k e).1)
  rcases ho2.2 with ⟨_, h2⟩ | ⟨g, cap', cur, rfl, h1, h2, h3, h4, h5, h6⟩
  · omega
  · exact ⟨ao1, c1, W2, g, cap', W3, hr1, hr2, ⟨ho2.1, .inr ⟨g, cap', cur, rfl, Nat.zero_le _, h2, h3, h4, h5, h6⟩⟩, hb3, h1, h3, (Array.getElem?_eq_some_iff.1 h2).1⟩
section
variable {B : Nat} {w w' W1 : World} {D M : Nat} {F G : List Nat} {d d' : Dk}
set_option maxRecDepth 100000 in
set_option maxHeartbeats 8000000 in
theorem lStep4 (h : Two B w D M F G d d) (hB : B ≤ w.heap.size) (hm : d.pend.length ≤ 2000000) (x : St) (hK : Kb w B x.kao x.ks) (hks : x.ks.length ≤ 1048576) (hk : x.kind = 4) : Calls Try.prog 22 #[.pointer (some ⟨D, 0, none⟩), .pointer (some ⟨M, 0, none⟩), .agg x.cs] w fun e w' => e = .returned (.bool true) ∧ SP B w w' D M F G (d.crash (share x.ks x.torn x.cut)) := by
  obtain ⟨N, hN⟩ : ∃ N, N = w.heap.size := ⟨_, rfl⟩
  have HN := hide hN
  have HH := hide h
  have HMB : Hid (d.pend.length ≤ 2000000 ∧ B ≤ w.heap.size) := ⟨hm, hB⟩
  obtain ⟨kind, xn, S, odd, kao, ks, kc, torn, cut⟩ := x
  have hk : kind = 4 := hk
  subst hk
  have HK : Hid (Kb w B kao ks) := hK
  have HKS : Hid (ks.length ≤ 1048576) := hks
  obtain ⟨n, hn⟩ : ∃ n, n = ks.length := ⟨_, rfl⟩
  have hn1 : n ≤ 1048576 := by rw [hn]; exact hks
  have HNN := hide hn
  obtain ⟨C, hC⟩ : ∃ C : Array Value, C = #[.int .i64 4, .int .i64 xn, .string S, .bool odd, .slice kao n kc, .int .i64 torn, .int .i64 cut] := ⟨_, rfl⟩
  have HC2 := hide hC
  obtain ⟨FV, hFV⟩ : ∃ z, z = fateV kao n kc torn cut := ⟨_, rfl⟩
  have HFV := hide hFV
  have HFI : Hid ((Try.prog.info? 27).map (·.size) = some FV.size ∧ FV.all (·.oneCell') = true ∧ fate0.size = FV.size ∧ (Try.prog.info? 27).map (·.size) = some FV.toList.length) := by rw [hFV]; exact ⟨fateInfo, by simp [fateV, Value.oneCell'], rfl, fateInfo⟩
  have eC : St.cs ⟨4, xn, S, odd, kao, ks, kc, torn, cut⟩ = C := by rw [hC, hn]; rfl
  rw [eC]
  show Calls _ _ _ w fun e w' => e = .returned (.bool true) ∧ SP B w w' D M F G (d.crash (share ks torn cut))
  obtain ⟨d', hd'⟩ : ∃ z, z = d.crash (share ks torn cut) := ⟨_, rfl⟩
  have HDD := hide hd'
  rw [← hd']
  have hni : (n : Int) ≤ 1048576 := by omega
  clear hC h hB hm hN hK hks hn eC hFV hd'
  go_enter Try.func22, Try.ntmps22
  go_wp2_with (first
    | (refine wpList_box_row (by rfl) 47 (.tmp 2) (by rfl) (some 5) (by rfl) N (by exact (unhide HN).symm) C (by rfl) ?_; intro W1 HX1 HB1 HS1; simp only [Act.put, List.setIfInBounds_toArray, List.set_cons_zero, List.set_cons_succ]
       have HBW : Hid (Below w.heap.size w W1) := by rw [← unhide HN]; exact unhide HB1
       have hc0 : W1.cell? ⟨N, 0, none⟩ = some (.int .i64 4) := (by rw [cell_of_row W1 N 0 _ _ _ (unhide HX1), unhide HC2]; rfl)
       have hc4 : W1.cell? ⟨N, 4, none⟩ = some (.slice kao n kc) := (by rw [cell_of_row W1 N 4 _ _ _ (unhide HX1), unhide HC2]; rfl)
       have hca : (W1.alloc (.cells #[] 4)).cell? ⟨N, 4, none⟩ = some (.slice kao n kc) := (World.cell?_alloc_lt _ _ _ (World.block_lt_of_cell? W1 _ hc4)).trans hc4
       have HKW : Hid (Kb W1 B kao ks) := (unhide HK).below ((unhide HBW).mono (unhide HMB).2)
       obtain ⟨ao1, c1, W2, g, c, W3, hr1, hr2, HOW⟩ := crashPrep W1 B ks kao kc n (unhide HNN) (unhide HKW) (unhide HKS)
       have HNW : Hid (N < W1.heap.size) := World.block_lt_of_cell? W1 _ hc0
       have HXN3 : Hid (W3.heap[N]? = some (.cells C 47 (0, 0))) := ((unhide HOW).2.1.block N (unhide HNW)).trans (unhide HX1)
       have HR3 : Hid (W3.rangeAt N 4 FV.toList) := (by
         rw [unhide HFV]
         intro j v hv
         rw [cell_of_row W3 N _ _ _ _ (unhide HXN3), unhide HC2]
         match j, hv with
         | 0, hv => exact hv
         | 1, hv => exact hv
         | 2, hv => exact hv)
       have hci : (n : Int) ≤ (c : Int) := (by have := (unhide HOW).2.2.2.1; omega)
       obtain ⟨N9, hN9⟩ : ∃ z, z = W3.heap.size := ⟨_, rfl⟩
       have HN9 := hide hN9
       clear hN9)
    | (at_builtin; refine append_to (by rfl) (.tmp 49) (.tmp 52) 25 25 (by rfl) (some 53) (by rfl) 25 (by rfl) _ _ (by rfl) (by rfl) _ _ hr1 ?_; simp only [Act.put, List.setIfInBounds_toArray, List.set_cons_zero, List.set_cons_succ]; clear hr1)
    | (at_builtin; refine append_to (by rfl) (.tmp 54) (.tmp 55) 25 25 (by rfl) (some 56) (by rfl) 25 (by rfl) _ _ (by rfl) (by rfl) _ _ hr2 ?_; simp only [Act.put, List.setIfInBounds_toArray, List.set_cons_zero, List.set_cons_succ]; clear hr2)
    | (refine wpList_load_mid (by rfl) 27 (.tmp 57) (by rfl) N 4 (by rfl) FV.toList _ (unhide HR3) fateUnd rfl (unhide HFI).2.2.2 ?_; simp only [Act.put, List.setIfInBounds_toArray, List.set_cons_zero, List.set_cons_succ, Array.toArray_toList])
    | (refine wpList_alloc_row (by rfl) 27 (by rfl) (some 9) (by rfl) N9 (by exact (unhide HN9).symm) fate0 fateZero ?_; intro W9 HX9 HB9 HS9; simp only [Act.put, List.setIfInBounds_toArray, List.set_cons_zero, List.set_cons_succ])
    | (refine wpList_store_row (by rfl) 27 (.tmp 9) (.tmp 58) (by rfl) N9 FV (by rfl) (by rfl) 27 fate0 (unhide HX9) (unhide HFI).1 (unhide HFI).2.2.1 (unhide HFI).2.1 ?_; simp only [Act.put]
       have HU10 : Hid (UpS W3 (W9.setRow N9 FV) []) := ((UpS.ofBelow [] (by rw [← unhide HN9]; exact unhide HB9))).setRow (.inr (by rw [unhide HN9]; exact Nat.le_refl _)) _
       have HX10 : Hid ((W9.setRow N9 FV).heap[N9]? = some (.cells FV 27 (0, 0))) := heapRow_same (unhide HX9) _
       obtain ⟨W10, hW10⟩ : ∃ z, z = W9.setRow N9 FV := ⟨_, rfl⟩
       rw [← hW10] at HU10 HX10 ⊢
       clear hW10
       have hd4 : W10.cell? ⟨N, 4, none⟩ = some (.slice kao n kc) := ((unhide HU10).cell (p := ⟨N, 4, none⟩) (Array.getElem?_eq_some_iff.1 (unhide HXN3)).1 (by simp)).trans (by rw [cell_of_row W3 N 4 _ _ _ (unhide HXN3), unhide HC2]; rfl)
       have he0 : W10.cell? ⟨N9, 0, none⟩ = some (.slice kao n kc) := by rw [cell_of_row W10 N9 0 _ _ _ (unhide HX10), unhide HFV]; rfl
       have hez : W10.frozen? ⟨N9, 0, none⟩ = false := by simp [World.frozen?, unhide HX10]
       obtain ⟨FV2, hFV2⟩ : ∃ z, z = fateV (some ⟨g, 0, none⟩) n c torn cut := ⟨_, rfl⟩
       have HFV2 := hide hFV2
       have HX11 : Hid ((W10.setCell ⟨N9, 0, none⟩ (.slice (some ⟨g, 0, none⟩) n c)).heap[N9]? = some (.cells FV2 27 (0, 0))) := (by
         show (W10.setCell ⟨N9, 0, none⟩ (.slice (some ⟨g, 0, none⟩) n c)).heap[N9]? = _
         rw [heapCell_same (unhide HX10), hFV2, unhide HFV]; rfl)
       have HFI2 : Hid ((Try.prog.info? 27).map (·.size) = some FV2.size) := by rw [hFV2]; exact fateInfo
       clear hFV2)
    | (refine wpList_load_row (by rfl) 27 (.tmp 9) (by rfl) N9 (by rfl) 27 FV2 (0, 0) _ (unhide HX11) fateUnd rfl (unhide HFI2) ?_; simp only [Act.put, List.setIfInBounds_toArray, List.set_cons_zero, List.set_cons_succ]))
  obtain ⟨W11, hW11⟩ : ∃ z, z = W10.setCell ⟨N9, 0, none⟩ (.slice (some ⟨g, 0, none⟩) n c) := ⟨_, rfl⟩
  rw [← hW11]
  have HU11 : Hid (UpS W3 W11 []) := by rw [hW11]; exact (unhide HU10).setCell (.inr (by show W3.heap.size ≤ N9; rw [unhide HN9]; exact Nat.le_refl _)) _
  have HT1 := hide ((unhide HH).below (unhide HBW))
  have HT11 : Hid (Two B W11 D M F G d d) := ((unhide HT1).below (unhide HOW).2.1).upd (unhide HU11) (fun _ _ => by simp)
  have HGF : Hid ((g ∉ F ∧ g ∉ G) ∧ N ∉ F ∧ N ∉ G) := ⟨⟨fun hk => by have := ((unhide HH).dk.ge _ hk).2; have := (unhide HBW).size; have := (unhide HOW).2.2.1; omega, fun hk => by have := ((unhide HH).rk.ge _ hk).2; have := (unhide HBW).size; have := (unhide HOW).2.2.1; omega⟩,
    fun hk => by have := ((unhide HH).dk.ge _ hk).2; have := unhide HN; omega, fun hk => by have := ((unhide HH).rk.ge _ hk).2; have := unhide HN; omega⟩
  have HB1B : Hid (B ≤ W1.heap.size) := Nat.le_trans (unhide HMB).2 (unhide HBW).size
  have HL1 : Hid ((bv ks).length = n) := by rw [unhide HNN]; exact List.length_map _
  have HCG : Hid (∀ j (hj : j < ks.length), W3.cell? ⟨g, j, none⟩ = some (.bool ks[j])) := fun j hj => by
    obtain ⟨g2, c2, y, e1, e2, e3, _⟩ := ownsRow_cell (unhide HOW).1 j (by have := unhide HNN; omega)
    obtain ⟨rfl, rfl⟩ : g = g2 ∧ c = c2 := by simpa using e1
    rw [e3, ← e2, List.getElem?_append_left (by rw [unhide HL1, unhide HNN]; exact hj)]
    simp [bv, hj]
  have HG3 : Hid (g < W3.heap.size ∧ N < W3.heap.size) := ⟨(unhide HOW).2.2.2.2, (Array.getElem?_eq_some_iff.1 (unhide HXN3)).1⟩
  have HKC := hide (kCrash (unhide HT11).dk (by have := (unhide HMB).1; omega) (some ⟨g, 0, none⟩) ks c torn cut (fun _ => ⟨g, 0, rfl, (unhide HGF).1.1, fun j hj => by rw [Nat.zero_add]; exact ((unhide HU11).cell (p := ⟨g, j, none⟩) (unhide HG3).1 (by simp)).trans (unhide HCG j hj)⟩))
  rw [← unhide HNN, ← unhide HFV2, ← unhide HDD] at HKC
  clear hW11 he0 hez hd4 hc0 hc4 hca HX9 HB9 HS9 HX10 HX11 HU10 HFV2 HFI2
  refine (unhide HKC).mono ?_
  rintro e w12 ⟨rfl, F12, hd12, hu12, hf12⟩
  have HT12 := hide ((unhide HT11).onD hd12 hu12 (fun k hk => .inl (hf12 k hk)))
  have HU12 : Hid (UpS W3 w12 F) := ((unhide HU11).mono (fun k hk => by cases hk)).trans hu12 (fun k hk => .inl hk)
  have HF12 := hide hf12
  have HR12 : Hid (w12.rangeAt N 4 FV.toList) := fun j v hv => ((unhide HU12).cell (p := ⟨N, 4 + j, none⟩) (unhide HG3).2 (unhide HGF).2.1).trans (unhide HR3 j v hv)
  have HK12 : Hid (Kb w12 B kao ks) := (unhide HKW).below (((unhide HOW).2.1.mono (unhide HB1B)).trans ((unhide HU12).below (Nat.le_trans (unhide HB1B) (unhide HOW).2.1.size) (fun k hk => ((unhide HH).dk.ge k hk).1)))
  clear hd12 hu12 hf12 HKC HR3
  go_wp2_with (refine wpList_load_mid (by rfl) 27 (.tmp 70) (by rfl) N 4 (by rfl) FV.toList _ (unhide HR12) fateUnd rfl (unhide HFI).2.2.2 ?_; simp only [Act.put, List.setIfInBounds_toArray, List.set_cons_zero, List.set_cons_succ, Array.toArray_toList])
  have HRC := hide (rCrash (unhide HT12).rk (by have := (unhide HMB).1; omega) kao ks kc torn cut ((unhide HK12).toKs (fun k hk => ((unhide HH).rk.ge k hk).1)))
  rw [← unhide HNN, ← unhide HFV, ← unhide HDD] at HRC
  refine (unhide HRC).mono ?_
  rintro e w13 ⟨rfl, G13, hd13, hu13, hf13⟩
  have HT13 := hide ((unhide HT12).onR hd13 hu13 (fun k hk => .inl (hf13 k hk)))
  have HU13 : Hid (UpS W3 w13 (F ++ G)) := ((unhide HU12).mono (fun k hk => .inl (by simp [hk]))).trans hu13 (fun k hk => .inl (by simp [hk]))
  have HG13 := hide hf13
  have HK13 : Hid (Kb w13 B kao ks) := (unhide HK12).below (hu13.below (by have := unhide HB1B; have := (unhide HOW).2.1.size; have := (unhide HU12).size; omega) (fun k hk => ((unhide HH).rk.ge k hk).1))
  have HC13 : Hid (w13.cell? ⟨N, 4, none⟩ = some (.slice kao n kc)) := ((unhide HU13).cell (p := ⟨N, 4, none⟩) (unhide HG3).2 (by simp [(unhide HGF).2])).trans (by rw [cell_of_row W3 N 4 _ _ _ (unhide HXN3), unhide HC2]; rfl)
  have HO13 : Hid (w13.ownsRow 0 4 1 (.slice (some ⟨g, 0, none⟩) (n + 1) c) (n + 1) (bv ks ++ [.bool true])) := ownsRow_keep (unhide HOW).1 fun k hk => by simp [Value.ownBlock] at hk; rw [← hk]; exact (unhide HU13).block g (unhide HG3).1 (by simp [(unhide HGF).1])
  have HNG : Hid (N ≠ g ∧ N < w13.heap.size ∧ B ≤ g) := ⟨by have := unhide HNW; have := (unhide HOW).2.2.1; omega, Nat.lt_of_lt_of_le (unhide HG3).2 (unhide HU13).size, Nat.le_trans (unhide HB1B) (unhide HOW).2.2.1⟩
  have HUW : Hid (UpS w w13 (F ++ G)) := (UpS.ofBelow (F ++ G) ((unhide HBW).trans ((unhide HOW).2.1.mono (unhide HBW).size))).trans (unhide HU13) (fun k hk => .inl hk)
  clear hd13 hu13 hf13 HRC HR12 HK12 HT12
  go_wp2
  go_loopw [10] (fun i wr => ∃ (k : Nat) (ys : List Value), k ≤ n ∧ i = .int .i64 k ∧ Hid (wr.ownsRow 0 4 1 (.slice (some ⟨g, 0, none⟩) (n + 1) c) (n + 1) ys ∧ (∀ j, k ≤ j → ys[j]? = (bv ks ++ [.bool true])[j]?) ∧ UpS w13 wr [g])) (fun i _ => n - (intOf i).toNat)
  case atStart => exact ⟨0, _, Nat.zero_le _, rfl, unhide HO13, fun _ _ => rfl, UpS.refl _ _⟩
  case round =>
    obtain ⟨k, ys, hk, rfl, HI⟩ := hrel
    have hc4 : wr.cell? ⟨N, 4, none⟩ = some (.slice kao n kc) := ((unhide HI).2.2.cell (p := ⟨N, 4, none⟩) (unhide HNG).2.1 (by simp [(unhide HNG).1])).trans (unhide HC13)
    by_cases hlt : k < n
    · have hki : (k : Int) < (n : Int) := by omega
      have hkl : k < ks.length := by rw [← unhide HNN]; exact hlt
      obtain ⟨ho, hy, hu⟩ := unhide HI
      obtain ⟨g2, c2, y, hv, hy1, hc, hz⟩ := ownsRow_cell ho k (by omega)
      obtain ⟨rfl, rfl⟩ : g = g2 ∧ c = c2 := by simpa using hv
      obtain ⟨g0, o0, hao, hg0, hcs⟩ := unhide HK13 (by omega)
      subst hao
      have hyb : y = .bool ks[k] := by
        rw [hy k (Nat.le_refl _), List.getElem?_append_left (by rw [unhide HL1]; exact hlt)] at hy1
        simp [bv, hkl] at hy1
        exact hy1.symm
      subst hyb
      have hcc : wr.cell? ⟨g0, o0 + k, none⟩ = some (.bool ks[k]) := (hu.cell (p := ⟨g0, o0 + k, none⟩) (World.block_lt_of_cell? w13 _ (hcs k hkl)) (by simp; have := (unhide HNG).2.2; omega)).trans (hcs k hkl)
      have hix1 := ixBools g 0 (n + 1) c k (by omega)
      rw [Nat.zero_add] at hix1
      have hix2 := ixBools g0 o0 n kc k hlt
      generalize ks[k] = b at *
      generalize o0 + k = j0 at *
      have HIK := hide (And.intro ho (And.intro hy hu))
      clear ho hy hu hv hy1 hcs HI hkl
      go_wp2_with fail
      go_quiet (fail)
      obtain ⟨wq, hwq⟩ : ∃ z, z = wr.drewN nq := ⟨_, rfl⟩
      have q1 : wq.cell? ⟨g, k, none⟩ = some (.bool b) := by rw [hwq]; exact hc
      have q2 : wq.frozen? ⟨g, k, none⟩ = false := by rw [hwq]; exact hz
      have HNX : Hid ((wq.setCell ⟨g, k, none⟩ (.bool (!b))).ownsRow 0 4 1 (.slice (some ⟨g, 0, none⟩) (n + 1) c) (n + 1) (ys.set k (.bool (!b))) ∧ (∀ j, k + 1 ≤ j → (ys.set k (.bool (!b)))[j]? = (bv ks ++ [.bool true])[j]?) ∧ UpS w13 (wq.setCell ⟨g, k, none⟩ (.bool (!b))) [g]) := by
        obtain ⟨ho, hy, hu⟩ := unhide HIK
        refine ⟨ownsRow_set (ownsRow_keep ho (fun q _ => by rw [hwq]; rfl)) k _, fun j hj => ?_, ?_⟩
        · rw [List.getElem?_set_ne (by omega)]; exact hy j (by omega)
        · rw [hwq]; exact (hu.drewN nq).setCell (.inl (by simp)) _
      rw [← hwq]
      clear hwq HIK hc hz hcc hc4
      go_wp2
      go_roundw
      case rel => exact ⟨k + 1, _, by omega, by go_num, HNX⟩
      case measure => simp [intOf]; omega
    · have hkk : n = k := by omega
      subst hkk
      have hc5 : wr.cell? ⟨g, n, none⟩ = some (.bool true) := by
        obtain ⟨ho, hy, hu⟩ := unhide HI
        obtain ⟨g2, c2, y, hv, hy1, hc, hz⟩ := ownsRow_cell ho n (by omega)
        obtain ⟨rfl, rfl⟩ : g = g2 ∧ c = c2 := by simpa using hv
        rw [hc, ← hy1, hy n (Nat.le_refl _), List.getElem?_append_right (by rw [unhide HL1]; exact Nat.le_refl _), unhide HL1, Nat.sub_self]
        rfl
      have hix1 := ixBools g 0 (n + 1) c n (by omega)
      rw [Nat.zero_add] at hix1
      go_wp2
      go_ret
      have hu := (unhide HI).2.2
      refine ⟨rfl, F12, G13, (unhide HT13).upd hu (fun k hk hx => ?_), (unhide HUW).trans hu (fun k hk => .inr ?_), fun k hk => .inl (unhide HF12 k hk), fun k hk => .inl (unhide HG13 k hk)⟩
      · rw [List.mem_singleton.1 hx] at hk
        rcases List.mem_append.1 hk with hk | hk
        · exact (unhide HGF).1.1 (unhide HF12 g hk)
        · exact (unhide HGF).1.2 (unhide HG13 g hk)
      · rw [List.mem_singleton.1 hk]; have := (unhide HOW).2.2.1; have := (unhide HBW).size; omega
end
end Go.Proofs.Ytfdibmbffmgikaa
