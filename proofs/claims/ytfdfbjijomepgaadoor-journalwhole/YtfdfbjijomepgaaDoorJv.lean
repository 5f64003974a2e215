/- The walk of JournalNone. -/
import Derived.Test.YtfdfbjijomepgaaDoorJu
namespace Go.Proofs.YtfdfbjijomepgaaDoor
open Go.RowKit

theorem cutTo (g m c i : Nat) (hi : i ≤ c) (h0 : 0 < c) (W : World) : (Instr.slice 25 (.slice (some ⟨g, 0, none⟩) m c) none (some (.int .i64 (i : Int))) none).run Tryd.prog W = .ok (.slice (some ⟨g, 0, none⟩) i c) W := by
  have he : Tryd.prog.elem 25 = 70 := by kernel_rfl
  rw [run_slice_h W 25 _ _ _ (by rw [he]; exact apUnd) .i64 i (by omega) (by omega), he, sizeJ (n := 4) (by kernel_rfl)]
  simp only [Result.andThen_ok, sliced, Int.toNat_natCast, Nat.sub_zero]
  rw [if_neg (by omega), Option.map_some, Addr.add_mid]
theorem flat_none (n : Nat) : flatP (noneL (n + 1)) = flatP (noneL n) ++ [.int .u8 1, .int .u32 (n : Int), .int .u64 0, .string ⟨#[]⟩] := by
  simp [noneL, List.range_succ, flatP, Pg.cs, nonePg]
section
variable {w0 w w' : World} {B Dd : Nat} {F F' : List Nat} {d d' : D.Dk} {ks : List (Nat × Obj)}
theorem Sd.lit (h : Sd w0 w B Dd F d ks) (o : Obj) : Sd w0 (w.alloc o) B Dd F d ((w.heap.size, o) :: ks) := h.new ((Below.refl _ _).alloc (Nat.le_refl _) _) (heap_alloc_new w o) (Nat.le_refl _)
theorem Sd.tail {p : Nat × Obj} (h : Sd w0 w B Dd F d (p :: ks)) : Sd w0 w B Dd F d ks := ⟨h.dsk, h.hB, h.b0, h.tab, h.bel, h.w0B, fun q hq => h.ks q (List.mem_cons_of_mem _ hq)⟩
theorem Pgs.same {u u' : World} {g : Nat} {l : List Pg} (h : Pgs u (some ⟨g, 0, none⟩) l) (hb : u'.heap[g]? = u.heap[g]?) : Pgs u' (some ⟨g, 0, none⟩) l := fun h0 => by
  obtain ⟨g', o, h1, h2⟩ := h h0
  obtain ⟨rfl, rfl⟩ : g = g' ∧ 0 = o := by simpa using h1
  refine ⟨g, 0, rfl, fun j hj k hk => ?_⟩
  rw [← h2 j hj k hk]
  simp only [World.cell?, hb]
theorem Sd.pgs (h : Sd w0 w B Dd F d ks) (i : Nat) {k : Nat} {o : Obj} (hi : ks[i]? = some (k, o)) {u : World} {l : List Pg} (hu : u.heap[k]? = some o) (hP : Pgs u (some ⟨k, 0, none⟩) l) : Pgs w (some ⟨k, 0, none⟩) l := hP.same ((h.get i hi).trans hu.symm)
theorem Sd.pgo (h : Sd w0 w B Dd F d ks) (i : Nat) {k : Nat} {o : Obj} (hi : ks[i]? = some (k, o)) : ∀ g o, (some (⟨k, 0, none⟩ : Addr)) = some ⟨g, o, none⟩ → g ∉ F := by
  rintro g o' he
  obtain ⟨rfl, _⟩ : k = g ∧ 0 = o' := by simpa using he
  exact h.out i hi
end
theorem pgs_one {w : World} {g : Nat} {t : TypeId} {fr : Nat × Nat} (p : Pg) (h : w.heap[g]? = some (.cells p.cs t fr)) : Pgs w (some ⟨g, 0, none⟩) [p] := Pgs.blk h fun j hj k hk => by
  obtain rfl : j = 0 := by simp at hj; exact hj
  simp
theorem pgs_two {w : World} {g : Nat} {t : TypeId} {fr : Nat × Nat} (p q : Pg) (h : w.heap[g]? = some (.cells (p.cs ++ q.cs) t fr)) : Pgs w (some ⟨g, 0, none⟩) [p, q] := Pgs.blk h fun j hj k hk => by
  have h4 : p.cs.size = 4 := rfl
  have hj : j = 0 ∨ j = 1 := by simp at hj; omega
  rcases hj with rfl | rfl
  · rw [Array.getElem?_append_left (by omega)]; simp
  · rw [Array.getElem?_append_right (by omega), h4, show 1 * 4 + k - 4 = k by omega]; rfl
theorem pgs_none (F : List Nat) : ∀ g o, (none : Option Addr) = some ⟨g, o, none⟩ → g ∉ F := fun g o h => by cases h
/-- bytes of nothing -/
theorem convZero (n : Nat) (u : World) : (convert 71 9 (.slice (some ⟨u.heap.size, 0, none⟩) n n)).run Tryd.prog (u.alloc (.cells (madeCells #[.int .u8 0] n) 5)) = .ok (.string ⟨(List.replicate n (0 : UInt8)).toArray⟩) (u.alloc (.cells (madeCells #[.int .u8 0] n) 5)) := by
  have hc := heap_alloc_new u (.cells (madeCells #[.int .u8 0] n) 5)
  have := run_convert_bytes_back (P := Tryd.prog) (u.alloc (.cells (madeCells #[.int .u8 0] n) 5)) 71 9 5 ⟨u.heap.size, 0, none⟩ n (List.replicate n (0 : UInt8)) Tryd.underlying71 Tryd.underlying5 Tryd.underlying9 fun j hj => by
    rw [List.length_replicate] at hj
    rw [Addr.add_mid, Nat.zero_add]
    refine (cellOf hc j).trans ?_
    simp [madeCells, hj, Nat.mod_one]
  rw [List.length_replicate] at this
  exact this
theorem convBig (u : World) : ∃ b : ByteArray, b.size = 997 ∧ (convert 71 9 (.slice (some ⟨u.heap.size, 0, none⟩) 997 997)).run Tryd.prog (u.alloc (.cells (madeCells #[.int .u8 0] 997) 5)) = .ok (.string b) (u.alloc (.cells (madeCells #[.int .u8 0] 997) 5)) :=
  ⟨⟨(List.replicate 997 (0 : UInt8)).toArray⟩, by rw [ByteArray.size, List.size_toArray, List.length_replicate], convZero 997 u⟩
theorem cutBig (b : ByteArray) (hb : b.size = 997) : ∃ c : ByteArray, c.size = 996 ∧ ∀ W : World, (Instr.slice 9 (.string b) none (some (.int .i64 996)) none).run Tryd.prog W = .ok (.string c) W := by
  refine ⟨b.extract 0 996, by simp [hb], fun W => ?_⟩
  rw [run_slice_string_h W 9 _ Tryd.underlying9 .i64 996 (by omega) (by rw [hb]; decide)]
  rfl
theorem withSer_len (s : Nat) (l : List Pg) : (withSer s l).length = l.length := by rw [withSer, List.length_map]
section
variable {w0 w w' : World} {B Dd : Nat} {F F' : List Nat} {d d' : D.Dk} {ks : List (Nat × Obj)}
theorem Sd.store {k : Nat} {c0 : Array Value} {t : TypeId} {fr : Nat × Nat} (h : Sd w0 w B Dd F d ((k, .cells c0 t fr) :: ks)) (hk : B ≤ k) (hks : ∀ p ∈ ks, p.1 ≠ k) (cs : Array Value) : Sd w0 (w.setRow k cs) B Dd F d ((k, .cells cs t fr) :: ks) := by
  have hb : Below B w (w.setRow k cs) := D.belowRow (Below.refl _ _) hk cs
  have h0 := h.get 0 rfl
  have hn := h.out 0 rfl
  refine ⟨h.dsk.keep fun x hx => heapRow_other w k x cs (fun e => hn (e ▸ hx)), Nat.le_trans h.hB hb.size, h.b0, h.tab.below hb h.b0, h.bel.trans (hb.mono h.w0B), h.w0B, fun p hp => ?_⟩
  rcases List.mem_cons.1 hp with rfl | hp
  · exact ⟨heapRow_same h0 cs, hn⟩
  · exact ⟨(heapRow_other w k p.1 cs (hks p hp)).trans (h.tail.ks p hp).1, (h.tail.ks p hp).2⟩
theorem sScanI (h : Sd w0 w B Dd F d ks) (hl : Lit d) (f c : Nat) (fI cI : Int) (hf : fI = (f : Int)) (hc : cI = (c : Int)) (h1 : 1 ≤ c) (h2 : f + c ≤ d.lies.length) (tp sr : Nat) (tI sI : Int) (hti : (tp : Int) = tI) (hsi : (sr : Int) = sI) (L : List Pg) (n : Nat) (hn : L.length = n)
    (hF : batchOk (hdrOf (pgOf d.lies) f) (slotsOf (pgOf d.lies) f c) ∧ batchL (hdrOf (pgOf d.lies) f) (slotsOf (pgOf d.lies) f c) = L ∧ (hdrOf (pgOf d.lies) f).ser = sr ∧ topK (pgOf d.lies) f c = tp) :
    Calls Tryd.prog 12 #[.iface 50 (.pointer (some ⟨Dd, 0, none⟩)), .int .i64 fI, .int .i64 cI] w fun e w' => ∃ G, e = .returned (.tuple #[.agg #[.int .u64 tI, .bool true, .int .u64 sI, .slice (some ⟨G, 0, none⟩) n n], .int .i64 0]) ∧ w.heap.size ≤ G ∧ Rp w' G L ∧ Sd w0 w' B Dd F d ks := by
  subst hti hsi hn
  refine (sScan h hl f c fI cI hf hc h1 h2 tp sr L hF.1 hF.2.1 hF.2.2.1 hF.2.2.2).mono ?_
  rintro e w' ⟨G, he, hG, hR, hb⟩
  exact ⟨G, he, hG, hR, h.below hb⟩
end
theorem roomAt (c r : Int) (hc : c ≤ 9223372036854775807) (hr : room c = r) (u : World) : Calls Tryd.prog 17 #[.int .i64 c] u fun e u' => e = .returned (.int .i64 r) ∧ u = u' := by
  subst hr
  exact (jRoom c hc u).mono fun e u' h => ⟨h.1, h.2.symm⟩
theorem fit00 (b : ByteArray) : ∀ q ∈ [(⟨0, 0, 0, b⟩ : Pg)], q.Fit := fit1 _ (by show 0 < 256; decide) (by show 0 < 4294967296; decide) (by show 0 < 18446744073709551616; decide)
theorem fit55 : ∀ q ∈ [(⟨0, 5, 0, ⟨#[]⟩⟩ : Pg), ⟨0, 5, 0, ⟨#[]⟩⟩], q.Fit := fun q hq => by
  have : q = ⟨0, 5, 0, ⟨#[]⟩⟩ := by simpa using hq
  rw [this]
  exact ⟨by decide, by decide, by decide⟩
set_option maxRecDepth 100000 in
set_option maxHeartbeats 8000000 in
theorem none6_walk (w : World) (hT : Tab w) : Calls Tryd.prog 5 #[] w fun e w' => e = .returned (.bool true) ∧ Below w.heap.size w w' := by
  have HT := hide hT
  obtain ⟨i0, hi, hz0, hz1, hz2⟩ := info_parts4
  clear hT
  go_enter Tryd.func5, Tryd.ntmps5
  go_wp2_with fail
  refine (jScanBad .nilIface 0 1 2 (by decide) w (fun u => jRefusedNil 0 1 u)).mono ?_
  rintro e w1 ⟨rfl, hb1⟩
  have HB1 := hide hb1
  obtain ⟨N1, hN1⟩ : ∃ N, N = w1.heap.size := ⟨_, rfl⟩
  have HN1 := hide hN1
  clear hb1 hN1
  go_wp2_with (first
    | (refine wpList_alloc_row (by rfl) 44 (by rfl) (some 2) (by rfl) N1 (by exact (unhide HN1).symm) _ zeroFound ?_; intro W1 HX1 HC1 HS1; simp only [Act.put, List.setIfInBounds_toArray, List.set_cons_zero, List.set_cons_succ])
    | (refine wpList_store_hid (by rfl) 44 (.tmp 2) (.tmp 22) (by rfl) N1 #[.int .u64 0, .bool false, .int .u64 0, .slice none 0 0] (by rfl) (by rfl) 44 _ (unhide HX1) foundInfo rfl (found_one _ _ _ _ _ _) ?_; intro W2 HX2 HE2; simp only [Act.put])
    | fail)
  have HB2 : Hid (Below w.heap.size w W2) := by
    rw [unhide HE2]
    have h1 := unhide HC1
    rw [unhide HN1] at h1 ⊢
    exact (unhide HB1).trans (belowRow (h1.mono (unhide HB1).size) (unhide HB1).size _)
  clear HX1 HC1 HS1 HE2 HB1 HN1 HX2
  refine (jScanBad (.iface 50 (.pointer none)) 0 1 1 (by decide) W2 (fun u => jRefusedNo u)).mono ?_
  rintro e w3 ⟨rfl, hb3⟩
  have HB3 : Hid (Below w.heap.size w w3) := (unhide HB2).trans (hb3.mono (unhide HB2).size)
  obtain ⟨N3, hN3⟩ : ∃ N, N = w3.heap.size := ⟨_, rfl⟩
  have HN3 := hide hN3
  clear hb3 hN3 HB2
  go_wp2_with (first
    | (refine wpList_alloc_row (by rfl) 44 (by rfl) (some 4) (by rfl) N3 (by exact (unhide HN3).symm) _ zeroFound ?_; intro W4 HX4 HC4 HS4; simp only [Act.put, List.setIfInBounds_toArray, List.set_cons_zero, List.set_cons_succ])
    | (refine wpList_store_hid (by rfl) 44 (.tmp 4) (.tmp 28) (by rfl) N3 #[.int .u64 0, .bool false, .int .u64 0, .slice none 0 0] (by rfl) (by rfl) 44 _ (unhide HX4) foundInfo rfl (found_one _ _ _ _ _ _) ?_; intro W5 HX5 HE5; simp only [Act.put])
    | fail)
  have HB5 : Hid (Below w.heap.size w W5) := by
    rw [unhide HE5]
    have h1 := unhide HC4
    rw [unhide HN3] at h1 ⊢
    exact (unhide HB3).trans (belowRow (h1.mono (unhide HB3).size) (unhide HB3).size _)
  clear HX4 HC4 HS4 HE5 HB3 HN3 HX5
  refine (D.dNew 300 (by decide) (by decide) W5).mono ?_
  rintro e w6 ⟨Dd, F6, rfl, hd6, hb6⟩
  have HS6 : Hid (Sd w w6 W5.heap.size Dd F6 nd0 []) := by
    have hb := (unhide HB5).trans (hb6.mono (unhide HB5).size)
    have hp := (unhide HT).pos
    exact ⟨hd6, hb6.size, by have := (unhide HB5).size; omega, (unhide HT).below hb hp, hb, (unhide HB5).size, fun p hp => by cases hp⟩
  clear hd6 hb6
  obtain ⟨B, hB⟩ : ∃ B, B = W5.heap.size := ⟨_, rfl⟩
  rw [← hB] at HS6
  clear hB HB5
  go_wp2_with fail
  refine (jPutNo w6).mono ?_
  rintro e w7 ⟨rfl, hb7⟩
  have HS7 := hide ((unhide HS6).below hb7)
  clear hb7 HS6
  obtain ⟨NB, hNB⟩ : ∃ NB, NB = w7.heap.size := ⟨_, rfl⟩
  have HNB := hide hNB
  clear hNB
  go_wp2
  go_loopw [8, 9] (fun v i wr => ∃ k : Nat, k ≤ 199 ∧ i = .int .i64 k ∧ Hid (wr.ownsRow NB 70 4 v k (flatP (noneL k)) ∧ Below NB w7 wr)) (fun _ i _ => 199 - (intOf i).toNat)
  case atStart => exact ⟨0, Nat.zero_le _, rfl, World.ownsRow_nil _ _ _ _, Below.refl _ _⟩
  case round =>
    obtain ⟨k, hk, rfl, HI⟩ := hrel
    by_cases hlt : k < 199
    · have hki : (k : Int) < 199 := by omega
      have HSZ : Hid (NB ≤ wr.heap.size) := by rw [unhide HNB]; exact (unhide HI).2.size
      have hrow := (unhide HI).1
      go_wp2_with (at_builtin; refine wpList_put _ rfl (.tmp 56) (.tmp 60) 25 rfl NB 70 i0 (.agg #[.int .u8 0, .int .u32 0, .int .u64 0, .string ⟨#[]⟩]) 4 32 apUnd hi hz0 hz1 hz2 rfl (by decide) _ k _ rfl (hrow.alloc _) ⟨wr.heap.size, 0, none⟩ 1 1 [.int .u8 1, .int .u32 (k : Int), .int .u64 0, .string ⟨#[]⟩] rfl rfl (four_new _ _ _ _ _ _) (by simp [Value.oneCell']) (by simp only [maxLen]; omega) (by omega) (by simp; have := unhide HSZ; omega) ?_; intro v' w10 hown' hgrow hnew; obtain ⟨g', cap', rfl⟩ := own_succ4 hown'; clear hnew)
      have HY : Hid (w10.ownsRow NB 70 4 (.slice (some ⟨g', 0, none⟩) (k + 1) cap') (k + 1) (flatP (noneL (k + 1))) ∧ Below NB w7 w10) := by
        rw [flat_none]
        refine ⟨hown', (unhide HI).2.trans (((Below.refl NB wr).alloc (unhide HSZ) _).grown hgrow (by simp; have := unhide HSZ; omega) (fun q e => (own_lt hrow e).1))⟩
      clear hown' hgrow hrow
      go_wp2
      go_roundw
      case rel => exact ⟨k + 1, by omega, by go_num, unhide HY⟩
      case measure => simp [intOf]; omega
    · obtain rfl : k = 199 := by omega
      obtain ⟨g, cap, rfl, hcap, hg0, hg1, hcs⟩ := own_pgs (l := noneL 199) (by rw [noneL_len]; exact (unhide HI).1) (by rw [noneL_len]; decide)
      rw [noneL_len] at hcap
      obtain ⟨o, ho⟩ : ∃ o, wr.heap[g]? = some o := ⟨_, Array.getElem?_eq_getElem hg1⟩
      have HS8 : Hid (Sd w wr B Dd F6 nd0 [(g, o)]) := (unhide HS7).new (by rw [← unhide HNB]; exact (unhide HI).2) ho (by rw [← unhide HNB]; exact hg0)
      have HP : Hid (Pgs wr (some ⟨g, 0, none⟩) (noneL 199)) := fun _ => ⟨g, 0, rfl, fun j hj k hk => by rw [Nat.zero_add]; exact hcs j hj k hk⟩
      have HO := hide ho
      clear hcs HI HS7 HNB hg0 hg1 ho HT hi hz0 hz1 hz2 hlt hk
      rw [noneL_len]
      obtain ⟨B7, hB7, hcv⟩ := convBig wr
      obtain ⟨B6, hB6, hc6⟩ := cutBig B7 hB7
      have hmk : ∀ u : World, (Instr.makeSlice 71 (.int .i64 997) (.int .i64 997)).run Tryd.prog u = .ok (.slice (some ⟨u.heap.size, 0, none⟩) 997 997) (u.alloc (.cells (madeCells #[.int .u8 0] 997) 5)) := D.mkBytes 997 (by decide)
      have hc198 : ∀ W : World, (Instr.slice 25 (.slice (some ⟨g, 0, none⟩) 199 cap) none (some (.int .i64 198)) none).run Tryd.prog W = .ok (.slice (some ⟨g, 0, none⟩) 198 cap) W := cutTo g 199 cap 198 (by omega) (by omega)
      have hc4 : ∀ W : World, (Instr.slice 25 (.slice (some ⟨g, 0, none⟩) 199 cap) none (some (.int .i64 4)) none).run Tryd.prog W = .ok (.slice (some ⟨g, 0, none⟩) 4 cap) W := cutTo g 199 cap 4 (by omega) (by omega)
      have hc3 : ∀ W : World, (Instr.slice 25 (.slice (some ⟨g, 0, none⟩) 199 cap) none (some (.int .i64 3)) none).run Tryd.prog W = .ok (.slice (some ⟨g, 0, none⟩) 3 cap) W := cutTo g 199 cap 3 (by omega) (by omega)
      go_wp2_with fail
      clear hcv hmk
      have HS9 := hide ((unhide HS8).lit (.cells (madeCells #[.int .u8 0] 997) 5)).tail
      clear HS8
      refine (sPut (unhide HS9) lt0.pend 0 300 (by decide) 5 5 rfl (noneL 199) (noneL_fit _ (by decide)) 199 (noneL_len _).symm (by decide) _ _ ((unhide HS9).pgs 0 rfl (unhide HO) (unhide HP)) ((unhide HS9).pgo 0 rfl) 60 nd0 pA).mono ?_
      rintro e wA ⟨rfl, FA, hA⟩
      have HSA := hide hA
      clear hA HS9
      go_wp2_with fail
      refine (sPut (unhide HSA) lt0.pend 0 300 (by decide) 5 5 rfl (noneL 198) (noneL_fit _ (by decide)) 198 (noneL_len _).symm (by decide) _ _ (noneL_sub ((unhide HSA).pgs 0 rfl (unhide HO) (unhide HP)) (by decide)) ((unhide HSA).pgo 0 rfl) 0 nd1 pB).mono ?_
      rintro e wB ⟨rfl, FB, hA⟩
      have HSB := hide hA
      clear hA HSA hc198
      go_wp2_with fail
      refine (sPut (unhide HSB) lt1.pend 296 5 (by decide) 6 6 rfl [] (fun p hp => by cases hp) 0 rfl (by decide) none 0 (Pgs.nil _ _) (pgs_none _) 1 nd1 pC).mono ?_
      rintro e wC ⟨rfl, FC, hA⟩
      have HSC := hide hA
      clear hA HSB
      go_wp2_with fail
      refine (sPut (unhide HSC) lt1.pend 296 4 (by decide) 6 6 rfl (noneL 4) (noneL_fit _ (by decide)) 4 (noneL_len _).symm (by decide) _ _ (noneL_sub ((unhide HSC).pgs 0 rfl (unhide HO) (unhide HP)) (by decide)) ((unhide HSC).pgo 0 rfl) 60 nd1 pD).mono ?_
      rintro e wD ⟨rfl, FD, hA⟩
      have HSD := hide hA
      clear hA HSC hc4
      go_wp2_with fail
      refine (sPut (unhide HSD) lt1.pend 296 4 (by decide) 4611686018427387905 4611686018427387905 rfl [] (fun p hp => by cases hp) 0 rfl (by decide) none 0 (Pgs.nil _ _) (pgs_none _) 1 nd1 pE).mono ?_
      rintro e wE ⟨rfl, FE, hA⟩
      have HSE := hide hA
      clear hA HSD
      go_wp2_with fail
      refine (sPut (unhide HSE) lt1.pend 296 4 (by decide) 4611686018427387904 4611686018427387904 rfl (noneL 3) (noneL_fit _ (by decide)) 3 (noneL_len _).symm (by decide) _ _ (noneL_sub ((unhide HSE).pgs 0 rfl (unhide HO) (unhide HP)) (by decide)) ((unhide HSE).pgo 0 rfl) 0 nd2 pF).mono ?_
      rintro e wF ⟨rfl, FF, hA⟩
      have HSF := hide hA
      clear hA HSE hc3 HP HO
      go_wp2_with fail
      have HSG0 := hide (unhide HSF).tail
      clear HSF
      have HLG := hide ((unhide HSG0).lit (.cells #[.int .u8 0, .int .u32 5, .int .u64 0, .string ⟨#[]⟩, .int .u8 0, .int .u32 5, .int .u64 0, .string ⟨#[]⟩] 70))
      refine (sPut (unhide HLG) lt2.pend 0 4 (by decide) 6 6 rfl [⟨0, 5, 0, ⟨#[]⟩⟩, ⟨0, 5, 0, ⟨#[]⟩⟩] fit55 2 rfl (by decide) _ _ (pgs_two ⟨0, 5, 0, ⟨#[]⟩⟩ ⟨0, 5, 0, ⟨#[]⟩⟩ ((unhide HLG).get 0 rfl)) ((unhide HLG).pgo 0 rfl) 1 nd2 pG).mono ?_
      rintro e wG ⟨rfl, FG, hA⟩
      have HSG := hide hA.tail
      clear hA HSG0 HLG
      go_wp2_with fail
      have HLH := hide ((unhide HSG).lit (.cells #[.int .u8 0, .int .u32 0, .int .u64 0, .string B7] 70))
      refine (sPut (unhide HLH) lt2.pend 0 4 (by decide) 6 6 rfl [⟨0, 0, 0, B7⟩] (fit00 B7) 1 rfl (by decide) _ _ (pgs_one ⟨0, 0, 0, B7⟩ ((unhide HLH).get 0 rfl)) ((unhide HLH).pgo 0 rfl) 82 nd2 (pH B7 hB7)).mono ?_
      rintro e wH ⟨rfl, FH, hA⟩
      have HSH := hide hA.tail
      clear hA HSG HLH
      go_wp2_with fail
      have HLI := hide ((unhide HSH).lit (.cells #[.int .u8 0, .int .u32 0, .int .u64 0, .string B6] 70))
      refine (sPut (unhide HLI) lt2.pend 0 4 (by decide) 6 6 rfl [⟨0, 0, 0, B6⟩] (fit00 B6) 1 rfl (by decide) _ _ (pgs_one ⟨0, 0, 0, B6⟩ ((unhide HLI).get 0 rfl)) ((unhide HLI).pgo 0 rfl) 0 (nd3 B6) (pI B6 (by omega))).mono ?_
      rintro e wI ⟨rfl, FI, hA⟩
      have HSI := hide hA.tail
      clear hA HSH HLI hc6
      go_wp2_with fail
      refine (sPut (unhide HSI) (lt3 B6 (by omega)).pend 0 4 (by decide) 0 0 rfl [] (fun p hp => by cases hp) 0 rfl (by decide) none 0 (Pgs.nil _ _) (pgs_none _) 1 (nd3 B6) (pJ B6)).mono ?_
      rintro e wJ ⟨rfl, FJ, hA⟩
      have HSJ := hide hA
      clear hA HSI
      go_wp2_with fail
      refine (sPut (unhide HSJ) (lt3 B6 (by omega)).pend (-1) 4 (by decide) 6 6 rfl [] (fun p hp => by cases hp) 0 rfl (by decide) none 0 (Pgs.nil _ _) (pgs_none _) 1 (nd3 B6) (pK B6)).mono ?_
      rintro e wK ⟨rfl, FK, hA⟩
      have HSK := hide hA
      clear hA HSJ
      go_wp2_with fail
      refine (sPut (unhide HSK) (lt3 B6 (by omega)).pend 0 0 (by decide) 6 6 rfl [] (fun p hp => by cases hp) 0 rfl (by decide) none 0 (Pgs.nil _ _) (pgs_none _) 1 (nd3 B6) (pL B6)).mono ?_
      rintro e wL ⟨rfl, FL, hA⟩
      have HSL := hide hA
      clear hA HSK
      go_wp2_with fail
      refine (sPut (unhide HSL) (lt3 B6 (by omega)).pend 4611686018427387904 4611686018427387904 (by decide) 6 6 rfl [] (fun p hp => by cases hp) 0 rfl (by decide) none 0 (Pgs.nil _ _) (pgs_none _) 1 (nd3 B6) (pM B6)).mono ?_
      rintro e wM ⟨rfl, FM, hA⟩
      have HSM := hide hA
      clear hA HSL
      go_wp2_with fail
      refine (sScanI (unhide HSM) (lt3 B6 (by omega)) 296 4 296 4 rfl rfl (by decide) (by rw [nl3]; decide) 4611686018427387904 4611686018427387904 4611686018427387904 4611686018427387904 rfl rfl (withSer 4611686018427387904 (noneL 3)) 3 (by rw [withSer_len, noneL_len]) (foundX B6)).mono ?_
      rintro e wX ⟨GX, rfl, hG, hR, hA⟩
      have HSX := hide hA
      obtain ⟨NX, hN⟩ : ∃ N, N = wX.heap.size := ⟨_, rfl⟩
      have HNX := hide hN
      clear hA HSM hN hG hR
      go_wp2_with (first
        | (refine wpList_alloc_row (by rfl) 44 (by rfl) (some 11) (by rfl) NX (by exact (unhide HNX).symm) _ zeroFound ?_; intro W1X HX1 HC1 HS1; simp only [Act.put, List.setIfInBounds_toArray, List.set_cons_zero, List.set_cons_succ])
        | (refine wpList_store_hid (by rfl) 44 (.tmp 11) (.tmp 159) (by rfl) NX #[.int .u64 4611686018427387904, .bool true, .int .u64 4611686018427387904, .slice (some ⟨GX, 0, none⟩) 3 3] (by rfl) (by rfl) 44 _ (unhide HX1) foundInfo rfl (found_one _ _ _ _ _ _) ?_; intro WX HX2 HE2; simp only [Act.put])
        | fail)
      have HBX : Hid (Below wX.heap.size wX WX) := by
        rw [unhide HE2]
        have h1 := unhide HC1
        rw [unhide HNX] at h1 ⊢
        exact D.belowRow h1 (Nat.le_refl _) _
      have HTX := hide ((unhide HSX).new (unhide HBX) (unhide HX2) (Nat.le_of_eq (unhide HNX).symm))
      clear HX1 HC1 HS1 HE2 HX2 HSX
      clear HNX HBX
      have HSX := hide (unhide HTX)
      clear HTX
      refine (sScanI (unhide HSX) (lt3 B6 (by omega)) 0 296 0 296 rfl rfl (by decide) (by rw [nl3]; decide) 6 6 6 6 rfl rfl (withSer 6 [⟨0, 0, 0, B6⟩]) 1 (by rw [withSer_len]; rfl) (foundY B6 (by omega))).mono ?_
      rintro e wY ⟨GY, rfl, hG, hR, hA⟩
      have HSY := hide hA
      obtain ⟨NY, hN⟩ : ∃ N, N = wY.heap.size := ⟨_, rfl⟩
      have HNY := hide hN
      clear hA HSX hN hG hR
      go_wp2_with (first
        | (refine wpList_alloc_row (by rfl) 44 (by rfl) (some 13) (by rfl) NY (by exact (unhide HNY).symm) _ zeroFound ?_; intro W1Y HX1 HC1 HS1; simp only [Act.put, List.setIfInBounds_toArray, List.set_cons_zero, List.set_cons_succ])
        | (refine wpList_store_hid (by rfl) 44 (.tmp 13) (.tmp 165) (by rfl) NY #[.int .u64 6, .bool true, .int .u64 6, .slice (some ⟨GY, 0, none⟩) 1 1] (by rfl) (by rfl) 44 _ (unhide HX1) foundInfo rfl (found_one _ _ _ _ _ _) ?_; intro WY HX2 HE2; simp only [Act.put])
        | fail)
      have HBY : Hid (Below wY.heap.size wY WY) := by
        rw [unhide HE2]
        have h1 := unhide HC1
        rw [unhide HNY] at h1 ⊢
        exact D.belowRow h1 (Nat.le_refl _) _
      have HTY := hide ((unhide HSY).new (unhide HBY) (unhide HX2) (Nat.le_of_eq (unhide HNY).symm))
      clear HX1 HC1 HS1 HE2 HX2 HSY
      clear HNY HBY
      obtain ⟨NF, hNF⟩ : ∃ N, N = WY.heap.size := ⟨_, rfl⟩
      have HLN := hide ((unhide HTY).lit (.cells #[.int .u8 1, .int .u32 3, .int .u64 0, .string ⟨#[111, 110, 101]⟩] 70))
      have HQ : Hid (B ≤ NF ∧ NY ≠ NF ∧ NX ≠ NF) := by
        have h1 := (Array.getElem?_eq_some_iff.1 ((unhide HTY).get 0 rfl)).1
        have h2 := (Array.getElem?_eq_some_iff.1 ((unhide HTY).get 1 rfl)).1
        have h3 := (unhide HTY).hB
        exact ⟨by omega, by omega, by omega⟩
      rw [← hNF] at HLN ⊢
      clear hNF HTY
      refine (sPut (unhide HLN) (lt3 B6 (by omega)).pend 100 4 (by decide) 9 9 rfl [one1] (fit1 _ (by decide) (by decide) (by decide)) 1 rfl (by decide) _ _ (pgs_one one1 ((unhide HLN).get 0 rfl)) ((unhide HLN).pgo 0 rfl) 0 (nd4 B6) (pN B6 (by omega))).mono ?_
      rintro e wN ⟨rfl, FN, hA⟩
      have HSN := hide hA
      have HN0 := hide (hA.get 0 rfl)
      clear hA HLN
      go_wp2_with (first
        | (refine wpList_store_hid (by rfl) 70 (.tmp 175) (.tmp 174) (by rfl) NF #[.int .u8 2, .int .u32 4, .int .u64 0, .string ⟨#[116, 119, 111]⟩] (by rfl) (by rfl) 70 _ (unhide HN0) pageInfo rfl (page_one _ _ _ _) ?_; intro WN HX2 HE2; simp only [Act.put])
        | fail)
      have HTN : Hid (Sd w WN B Dd FN (nd4 B6) ((NF, .cells #[.int .u8 2, .int .u32 4, .int .u64 0, .string ⟨#[116, 119, 111]⟩] 70) :: [(NY, .cells #[.int .u64 6, .bool true, .int .u64 6, .slice (some ⟨GY, 0, none⟩) 1 1] 44), (NX, .cells #[.int .u64 4611686018427387904, .bool true, .int .u64 4611686018427387904, .slice (some ⟨GX, 0, none⟩) 3 3] 44)])) := by
        rw [unhide HE2]
        refine (unhide HSN).store (unhide HQ).1 (fun p hp => ?_) _
        rcases List.mem_cons.1 hp with rfl | hp
        · exact (unhide HQ).2.1
        · rw [List.mem_singleton.1 hp]
          exact (unhide HQ).2.2
      clear HE2 HX2 HN0 HSN
      refine (sPut (unhide HTN) (lt4 B6 (by omega)).pend 100 4 (by decide) 10 10 rfl [two1] (fit1 _ (by decide) (by decide) (by decide)) 1 rfl (by decide) _ _ (pgs_one two1 ((unhide HTN).get 0 rfl)) ((unhide HTN).pgo 0 rfl) 0 (nd5 B6) (pO B6 (by omega))).mono ?_
      rintro e wO ⟨rfl, FO, hA⟩
      have HSO := hide hA.tail
      clear hA HTN HQ
      go_wp2_with fail
      refine (sScanI (unhide HSO) (lt5 B6 (by omega)) 100 4 100 4 rfl rfl (by decide) (by rw [nl5]; decide) 10 10 10 10 rfl rfl (withSer 10 [two1]) 1 (by rw [withSer_len]; rfl) (foundZ B6 (by omega))).mono ?_
      rintro e wZ ⟨GZ, rfl, hG, hR, hA⟩
      have HSZ := hide hA
      obtain ⟨NZ, hN⟩ : ∃ N, N = wZ.heap.size := ⟨_, rfl⟩
      have HNZ := hide hN
      have HRZ := hide hR
      clear hA HSO hN hG hR
      go_wp2_with (first
        | (refine wpList_alloc_row (by rfl) 44 (by rfl) (some 18) (by rfl) NZ (by exact (unhide HNZ).symm) _ zeroFound ?_; intro W1Z HX1 HC1 HS1; simp only [Act.put, List.setIfInBounds_toArray, List.set_cons_zero, List.set_cons_succ])
        | (refine wpList_store_hid (by rfl) 44 (.tmp 18) (.tmp 184) (by rfl) NZ #[.int .u64 10, .bool true, .int .u64 10, .slice (some ⟨GZ, 0, none⟩) 1 1] (by rfl) (by rfl) 44 _ (unhide HX1) foundInfo rfl (found_one _ _ _ _ _ _) ?_; intro WZ HX2 HE2; have hz0 : WZ.cell? ⟨NZ, 0, none⟩ = some (.int .u64 10) := cellOf (unhide HX2) 0; have hz1 : WZ.cell? ⟨NZ, 1, none⟩ = some (.bool true) := cellOf (unhide HX2) 1; have hz2 : WZ.cell? ⟨NZ, 2, none⟩ = some (.int .u64 10) := cellOf (unhide HX2) 2; have hz3 : WZ.cell? ⟨NZ, 3, none⟩ = some (.slice (some ⟨GZ, 0, none⟩) 1 1) := cellOf (unhide HX2) 3; simp only [Act.put])
        | fail)
      have HBZ : Hid (Below wZ.heap.size wZ WZ) := by
        rw [unhide HE2]
        have h1 := unhide HC1
        rw [unhide HNZ] at h1 ⊢
        exact D.belowRow h1 (Nat.le_refl _) _
      have HTZ := hide (((unhide HSZ).below (unhide HBZ)).lit (.cells #[.int .u8 2, .int .u32 4, .int .u64 0, .string ⟨#[116, 119, 111]⟩] 70))
      have HQZ : Hid (Pgs (WZ.alloc (.cells #[.int .u8 2, .int .u32 4, .int .u64 0, .string ⟨#[116, 119, 111]⟩] 70)) (some ⟨GZ, 0, none⟩) (withSer 10 [two1])) := ((unhide HRZ).pgs.below (unhide HBZ)).below ((Below.refl _ _).alloc (Nat.le_refl _) _)
      clear HX1 HC1 HS1 HE2 HX2 HSZ HBZ HNZ HRZ hz0 hz1 hz2 hz3
      refine (lIsT 10 10 [two1] (by decide) GZ _ 1 _ (unhide HQZ) (pgs_one two1 ((unhide HTZ).get 0 rfl))).mono ?_
      rintro e wE ⟨rfl, hb⟩
      have HSE := hide ((unhide HTZ).below hb).tail
      clear hb HTZ HQZ
      have hx0 : wE.cell? ⟨NX, 0, none⟩ = some (.int .u64 4611686018427387904) := cellOf ((unhide HSE).get 1 rfl) 0
      have hx1 : wE.cell? ⟨NX, 1, none⟩ = some (.bool true) := cellOf ((unhide HSE).get 1 rfl) 1
      have hx3 : wE.cell? ⟨NX, 3, none⟩ = some (.slice (some ⟨GX, 0, none⟩) 3 3) := cellOf ((unhide HSE).get 1 rfl) 3
      have hy0 : wE.cell? ⟨NY, 0, none⟩ = some (.int .u64 6) := cellOf ((unhide HSE).get 0 rfl) 0
      have hy1 : wE.cell? ⟨NY, 1, none⟩ = some (.bool true) := cellOf ((unhide HSE).get 0 rfl) 1
      have hy2 : wE.cell? ⟨NY, 2, none⟩ = some (.int .u64 6) := cellOf ((unhide HSE).get 0 rfl) 2
      have hy3 : wE.cell? ⟨NY, 3, none⟩ = some (.slice (some ⟨GY, 0, none⟩) 1 1) := cellOf ((unhide HSE).get 0 rfl) 3
      go_wp2_with fail
      clear hx0 hx1 hx3 hy0 hy1 hy2 hy3
      refine (roomAt 0 0 (by decide) (by decide) wE).mono ?_
      rintro e we ⟨rfl, hE⟩
      subst hE
      go_wp2_with fail
      refine (roomAt (-5) 0 (by decide) (by decide) wE).mono ?_
      rintro e we ⟨rfl, hE⟩
      subst hE
      go_wp2_with fail
      refine (roomAt 24 23 (by decide) (by decide) wE).mono ?_
      rintro e we ⟨rfl, hE⟩
      subst hE
      go_wp2_with fail
      refine (roomAt 200 198 (by decide) (by decide) wE).mono ?_
      rintro e we ⟨rfl, hE⟩
      subst hE
      go_wp2_with fail
      go_ret
      exact ⟨rfl, (unhide HSE).bel⟩
end Go.Proofs.YtfdfbjijomepgaaDoor
