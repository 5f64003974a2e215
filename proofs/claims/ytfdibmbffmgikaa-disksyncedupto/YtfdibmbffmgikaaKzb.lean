/- DiskSynced: the walk. -/
import Derived.Test.YtfdibmbffmgikaaKza
namespace Go.Proofs.Ytfdibmbffmgikaa
open Go.RowKit Go.Lib

theorem strs_at (l : List (List UInt8)) (i : Nat) (hi : i < l.length) : (strs l)[i]? = some (str (l.getD i [])) := by simp [strs, hi, List.getD]
theorem strs_set (l : List (List UInt8)) (i : Nat) (b : List UInt8) : (strs l).setIfInBounds i (str b) = strs (l.set i b) := by simp [strs, List.map_set]
theorem row_tb {u : World} {R : Nat} {l : List (List UInt8)} (h : u.heap[R]? = some (.cells (strs l) 9 (0, 0))) : Tb u u.heap.size (some ⟨R, 0, none⟩) (l.map fun b => ⟨b.toArray⟩) := fun h0 => by
  obtain ⟨g, o, h1, h2⟩ := row_ts h h0
  exact ⟨g, o, h1, by have := World.block_lt_of_cell? u _ (h2 0 h0); exact this, h2⟩
/-- a row of texts, with room behind it -/
def Tr (W : World) (R : Nat) (l : List (List UInt8)) : Prop := ∃ cur, W.heap[R]? = some (.cells cur 9 (0, 0)) ∧ l.length ≤ cur.size ∧ ∀ i, i < l.length → cur[i]? = some (str (l.getD i []))
theorem Tr.cell {W : World} {R : Nat} {l : List (List UInt8)} (h : Tr W R l) (i : Nat) (hi : i < l.length) : W.cell? ⟨R, i, none⟩ = some (str (l.getD i [])) := by
  obtain ⟨cur, h1, _, h3⟩ := h
  rw [cell_of_row W R i _ _ _ h1]
  exact h3 i hi
theorem Tr.fz {W : World} {R : Nat} {l : List (List UInt8)} (h : Tr W R l) (i : Nat) : W.frozen? ⟨R, i, none⟩ = false := by
  obtain ⟨cur, h1, _⟩ := h
  simp [World.frozen?, h1]
theorem Tr.lt {W : World} {R : Nat} {l : List (List UInt8)} (h : Tr W R l) : R < W.heap.size := by
  obtain ⟨cur, h1, _⟩ := h
  exact (Array.getElem?_eq_some_iff.1 h1).1
theorem Tr.keep {W W' : World} {R : Nat} {l : List (List UInt8)} (h : Tr W R l) (hb : W'.heap[R]? = W.heap[R]?) : Tr W' R l := by
  obtain ⟨cur, h1, h2⟩ := h
  exact ⟨cur, hb.trans h1, h2⟩
theorem Tr.set {W : World} {R : Nat} {l : List (List UInt8)} (h : Tr W R l) (j : Nat) (b : List UInt8) : Tr (W.setCell ⟨R, j, none⟩ (str b)) R (l.set j b) := by
  obtain ⟨cur, h1, h2, h3⟩ := h
  refine ⟨cur.setIfInBounds j (str b), heapCell_same h1 _ _, by simpa using h2, fun i hi => ?_⟩
  rw [List.length_set] at hi
  have := h3 i hi
  have hc : i < cur.size := by omega
  rw [Array.getElem?_setIfInBounds]
  by_cases e : j = i
  · subst e
    simp [hc, List.getD, hi]
  · rw [if_neg e, this]
    simp [List.getD, e]
/-- a copy of a row of texts -/
theorem copyRow (u : World) (R : Nat) (l : List (List UInt8)) (n : Nat) (hn : n = l.length) (hl : l.length ≤ 4096) (h0 : 0 < l.length) (h : u.heap[R]? = some (.cells (strs l) 9 (0, 0))) (cap : Nat) :
    ∃ R2 c W, (Builtin.append_ #[36, 36] 36 #[.slice (some ⟨u.heap.size, 0, none⟩) 0 0, .slice (some ⟨R, 0, none⟩) n cap]).run Try.prog (u.alloc (.cells #[] 9)) = .ok (.slice (some ⟨R2, 0, none⟩) n c) W ∧ Tr W R2 l ∧ u.heap.size ≤ R2 ∧ Below u.heap.size u W := by
  subst hn
  obtain ⟨i0, hi, hz0, hz1, hz2⟩ := info_parts infoStr
  have hb0 : Below u.heap.size u (u.alloc (.cells #[] 9)) := (Below.refl _ _).alloc (Nat.le_refl _) _
  have hown : (u.alloc (.cells #[] 9)).ownsRow u.heap.size 9 1 (.slice (some ⟨u.heap.size, 0, none⟩) 0 0) 0 [] := World.ownsRow_made u #[] 0 (Nat.le_refl _) (by decide) rfl
  have hRl : R < u.heap.size := (Array.getElem?_eq_some_iff.1 h).1
  obtain ⟨v', W', hr, ho, hg', hnw⟩ := run_append_own' (P := Try.prog) (u.alloc (.cells #[] 9)) u.heap.size 36 36 9 i0 (.string .empty) 1 16 Try.underlying36 hi hz0 hz1 hz2 rfl (by decide) _ 0 [] hown ⟨R, 0, none⟩ l.length cap (l.map str) (by simp) (fun j x hx => by
    rw [Addr.add_mid, Nat.zero_add, World.cell?_alloc_lt _ _ _ hRl, cell_of_row u R j _ _ _ h]
    simpa [strs] using hx) (fun x hx => by obtain ⟨s, _, rfl⟩ := List.mem_map.1 hx; rfl) (by simp only [maxLen]; omega) (by omega) (by simp)
  rw [Nat.zero_add, List.nil_append] at ho
  have hbel : Below u.heap.size u W' := hb0.grown hg' hb0.size (fun k e => by simp [Value.ownBlock] at e; omega)
  rcases ho.2 with ⟨_, h2⟩ | ⟨g', cap', cur, rfl, h1, h2, h3, h4, h5, h6⟩
  · omega
  · refine ⟨g', cap', W', hr, ⟨cur, h2, by omega, fun i hi => ?_⟩, h1, hbel⟩
    have : (l.map str)[i]? = some (str (l.getD i [])) := by simp [hi, List.getD]
    rw [← h6, List.getElem?_take_of_lt (by omega), Array.getElem?_toList] at this
    exact this

/-- a disk, the law's own list, since X -/
structure One (B2 : Nat) (X w : World) (D : Nat) (F : List Nat) (v : Value) (d : Dk) (k P : Nat) : Prop where
  dk : Dsk B2 w D F d
  clean : Clean d
  own : w.ownsRow B2 58 2 v d.pend.length (cCells d.pend)
  apart : ∀ k, v.ownBlock = some k → k ∉ F
  bel : Below B2 X w
  size : B2 ≤ w.heap.size
  pend : d.pend.length ≤ k
  len : d.lies.length = P
theorem One.geA {B2 : Nat} {X w : World} {D : Nat} {F : List Nat} {v : Value} {d : Dk} {k P : Nat} (h : One B2 X w D F v d k P) : ∀ k ∈ F ++ v.ownBlock.toList, B2 ≤ k := fun k hk => by
  rcases List.mem_append.1 hk with hk | hk
  · exact (h.dk.ge k hk).1
  · exact (h.own.lt k (mem_toList hk)).1
set_option maxRecDepth 100000 in
set_option maxHeartbeats 16000000 in
theorem synced_walk (ls : List ByteArray) (ao : Option Addr) (cap : Nat) (l : List St) (ao2 : Option Addr) (cap2 : Nat) (kao : Option Addr) (ks : List Bool) (kc : Nat) (torn cut : Int) (u : World) (hT : Tb u u.heap.size ao ls) (hS : Sts u u.heap.size ao2 l) (hK : Kb u u.heap.size kao ks) (h1 : ls.length ≤ 1048576) (h2 : l.length ≤ 1048576) :
    Calls Try.prog 6 #[.slice ao ls.length cap, .slice ao2 l.length cap2, .agg (fateV kao ks.length kc torn cut)] u fun e u' => e = .returned (.bool true) ∧ Below u.heap.size u u' := by
  obtain ⟨B, hB⟩ : ∃ B, B = u.heap.size := ⟨_, rfl⟩
  rw [← hB] at hT hS hK ⊢
  have HB := hide hB
  have HLe : Hid (∀ w, Below B u w → B ≤ w.heap.size) := fun w h => by rw [hB]; exact h.size
  obtain ⟨P, hP⟩ : ∃ P, P = ls.length := ⟨_, rfl⟩
  obtain ⟨m, hm⟩ : ∃ m, m = l.length := ⟨_, rfl⟩
  have HP := hide hP
  have HM := hide hm
  have HT := hide hT
  have HS := hide hS
  have HKB := hide hK
  have HN1 := hide h1
  have hm1 : m ≤ 1048576 := by omega
  obtain ⟨FV, hFV⟩ : ∃ z, z = fateV kao ks.length kc torn cut := ⟨_, rfl⟩
  have HFV := hide hFV
  rw [← hP, ← hm, ← hFV]
  clear hB hT hS hK h1 h2 hm hP hFV
  go_enter Try.func6, Try.ntmps6
  go_wp2_with (refine wpList_box_row (by rfl) 27 (.tmp 2) (by rfl) (some 5) (by rfl) B (by exact (unhide HB).symm) FV (by rfl) ?_; intro W0 HX0 HB0 HS0; simp only [Act.put, List.setIfInBounds_toArray, List.set_cons_zero, List.set_cons_succ])
  refine (wakes W0).mono ?_
  rintro e w1 ⟨rfl, hb⟩
  have HBw1 : Hid (Below B u w1) := (unhide HB0).trans (hb.mono (by rw [unhide HS0]; omega))
  have HX1 : Hid (w1.heap[B]? = some (.cells FV 27 (0, 0))) := (hb.block B (by rw [unhide HS0]; omega)).trans (unhide HX0)
  clear hb HX0 HB0 HS0
  obtain ⟨ax, cx, X, hrun, hts, hbc⟩ := copyTexts w1 B ls ao cap ((unhide HT).below (unhide HBw1)) (unhide HN1)
  rw [← unhide HP] at hrun
  have HTS := hide hts
  have HBX : Hid (Below B u X) := (unhide HBw1).trans (hbc.mono (unhide HLe _ (unhide HBw1)))
  have HXX : Hid (X.heap[B]? = some (.cells FV 27 (0, 0))) := (hbc.block B (Array.getElem?_eq_some_iff.1 (unhide HX1)).1).trans (unhide HX1)
  clear hts hbc HX1
  go_wp2_with (at_builtin; refine append_to (by rfl) (.tmp 24) (.tmp 25) 36 36 (by rfl) (some 26) (by rfl) 36 (by rfl) _ _ (by rfl) (by rfl) _ _ hrun ?_; simp only [Act.put, List.setIfInBounds_toArray, List.set_cons_zero, List.set_cons_succ])
  clear hrun
  cases hL : loads ls
  · have HLD := hide (dLoadBad ls hL ax cx X (unhide HTS))
    rw [← unhide HP] at HLD
    refine (unhide HLD).mono ?_
    rintro e w2 ⟨rfl, hb⟩
    have HBw2 : Hid (Below B u w2) := (unhide HBX).trans (hb.mono (unhide HLe _ (unhide HBX)))
    clear hb HLD HTS
    go_wp2
    go_ret
    exact ⟨rfl, unhide HBw2⟩
  · have HLD := hide (dLoadOk ls hL ax cx X (unhide HTS))
    rw [← unhide HP] at HLD
    refine (unhide HLD).mono ?_
    rintro e w2 ⟨D, F, rfl, hd, hb⟩
    obtain ⟨B2, hB2⟩ : ∃ z, z = X.heap.size := ⟨_, rfl⟩
    rw [← hB2] at hd hb
    have HGE : Hid (B < B2) := by rw [hB2]; exact (Array.getElem?_eq_some_iff.1 (unhide HXX)).1
    have HBZ : Hid (∀ w, Below B2 X w → Below B u w) := fun w h => (unhide HBX).trans (h.mono (Nat.le_of_lt (unhide HGE)))
    have HI0 : Hid (One B2 X w2 D F (.slice none 0 0) (Dk.loaded ls) 0 P) := ⟨hd, Clean.loaded ls, World.ownsRow_nil _ _ _ _, (fun k hk => by cases hk), hb, by rw [hB2]; exact hb.size, Nat.le_refl _, by rw [unhide HP]; simp [Dk.loaded]⟩
    have HP0 : Hid (0 < P ∧ P ≤ 4096) := ⟨by rw [← (unhide HI0).len]; exact hd.ok.pos, by rw [← (unhide HI0).len]; exact hd.ok.max⟩
    have hP4 : (P : Int) ≤ 4096 := by have := (unhide HP0).2; omega
    clear hd hb HLD HTS hB2 hL HBw1
    go_wp2
    go_loopw [9, 10] (fun v vi wr => ∃ (k : Nat) (F : List Nat) (d : Dk), k ≤ m ∧ vi = .int .i64 k ∧ Hid (One B2 X wr D F v d k P)) (fun _ vi _ => m - (intOf vi).toNat)
    case atStart => exact ⟨0, F, _, Nat.zero_le _, rfl, HI0⟩
    case round =>
      clear HI0 F
      obtain ⟨k, F, d, hk, rfl, HI⟩ := hrel
      by_cases hlt : k < m
      · have hki : (k : Int) < (m : Int) := by omega
        have hkl : k < l.length := by rw [← unhide HM]; exact hlt
        obtain ⟨sb, so, hao, hbB, hat⟩ := ((unhide HS).below (unhide HBZ _ (unhide HI).bel)).at' (by omega)
        subst hao
        have HAT := hide (hat k hkl)
        have HOK := hide ((unhide HS).ok _ (List.getElem_mem hkl))
        have hix := ixSteps sb so m cap2 k hlt
        clear hat hbB
        obtain ⟨x, hx⟩ : ∃ x, x = l[k] := ⟨_, rfl⟩
        rw [← hx] at HAT HOK
        clear hx hkl
        obtain ⟨o7, ho7⟩ : ∃ z, z = so + k * 7 := ⟨_, rfl⟩
        rw [← ho7] at hix HAT
        clear ho7
        have HR7 := hide (unhide HAT).range
        obtain ⟨C, hC⟩ : ∃ C, C = x.cs := ⟨_, rfl⟩
        have HC1 : Hid (C.size = 7) := by rw [hC]; exact x.cs_size
        rw [← hC] at HR7
        have HCX := hide hC
        clear hC
        have hvo : u9.oneCell' = true := by obtain ⟨ao, c, e⟩ := ownsRow_len (unhide HI).own; rw [e]; rfl
        go_wp2_with (refine wpList_load_mid (by rfl) 47 (.tmp 49) (by rfl) sb o7 (by rfl) C.toList _ (unhide HR7) stepUnd rfl (by rw [Array.length_toList, unhide HC1]; exact stepInfo) ?_; simp only [Act.put, List.setIfInBounds_toArray, List.set_cons_zero, List.set_cons_succ, Array.toArray_toList])
        have HDO := hide (lDoes (unhide HI).dk (unhide HI).clean (unhide HI).size (by have := (unhide HI).pend; omega) d.pend (by have := (unhide HI).pend; omega) (unhide HI).own (unhide HI).apart x (unhide HOK))
        rw [← unhide HCX] at HDO
        refine (unhide HDO).mono ?_
        rintro e w5 ⟨v5, F5, p5, rfl, hd, ho, hpe, hpl, hu, hf, hv, hvF⟩
        obtain rfl := hpe rfl
        have HNX : Hid (One B2 X w5 D F5 v5 (d.act x) (k + 1) P) := ⟨hd, (unhide HI).clean.act x, ho, hvF, (unhide HI).bel.trans (hu.below (unhide HI).size (unhide HI).geA), Nat.le_trans (unhide HI).size hu.size, by have := (unhide HI).clean.act_pend x; have := (unhide HI).pend; omega, by rw [(unhide HI).clean.act_lies x]; exact (unhide HI).len⟩
        have hv5o : v5.oneCell' = true := by obtain ⟨ao, c, e⟩ := ownsRow_len ho; rw [e]; rfl
        clear hd ho hpe hpl hu hf hv hvF HDO HI HR7 HAT
        go_wp2
        go_roundw
        case rel => exact ⟨k + 1, F5, d.act x, by omega, by go_num, HNX⟩
        case measure => simp [intOf]; omega
      · have hkk : k = m := by omega
        subst hkk
        obtain ⟨aoq, cq, hvq, hcs⟩ := own_cs (unhide HI).own
        obtain ⟨q, hq⟩ : ∃ q, q = d.pend.length := ⟨_, rfl⟩
        rw [← hq] at hvq
        have HQ := hide hq
        have hqm : q ≤ 2000000 := by have := (unhide HI).pend; omega
        have hqi : (q : Int) ≤ 2000000 := by omega
        have HCS := hide hcs
        clear hq hcs
        subst hvq
        go_wp2_with fail
        have HDU := hide (kDurableD (unhide HI).dk)
        rw [(unhide HI).len] at HDU
        refine (unhide HDU).mono ?_
        rintro e w3 ⟨rfl, hx, hb, hs⟩
        obtain ⟨R1, hR1⟩ : ∃ z, z = wr.heap.size := ⟨_, rfl⟩
        rw [← hR1] at hx
        rw [← hR1]
        have HR1W : Hid (wr.heap.size ≤ R1) := Nat.le_of_eq hR1.symm
        have HX3 := hide hx
        have HD3 := hide ((unhide HI).dk.below hb)
        have HB3 : Hid (Below B2 X w3) := (unhide HI).bel.trans (hb.mono (unhide HI).size)
        have HG3 : Hid (B2 ≤ w3.heap.size) := Nat.le_trans (unhide HI).size hb.size
        have HC3 : Hid (Cs w3 aoq d.pend) := fun h0 => by
          obtain ⟨g, h1, h2⟩ := unhide HCS h0
          exact ⟨g, h1, fun i hi => ⟨(hb.cell (World.block_lt_of_cell? wr _ (h2 i hi).1)).trans (h2 i hi).1, (hb.cell (World.block_lt_of_cell? wr _ (h2 i hi).2)).trans (h2 i hi).2⟩⟩
        clear hx hb hs hR1 HDU HCS
        go_wp2_with fail
        have HPE := hide (kPendingD (unhide HD3))
        rw [← unhide HQ] at HPE
        refine (unhide HPE).mono ?_
        rintro e w3' ⟨rfl, hw⟩
        obtain rfl := hw.symm
        clear hw HPE
        obtain ⟨R2, c2, w4, hrun, htr, hge, hbc⟩ := copyRow w3 R1 d.lies P (unhide HI).len.symm (by rw [(unhide HI).len]; exact (unhide HP0).2) (by rw [(unhide HI).len]; exact (unhide HP0).1) (unhide HX3) P
        have HTR0 : Hid (Tr w4 R2 (d.lastK 0)) := htr
        have HD4 := hide ((unhide HD3).below hbc)
        have HB4 : Hid (Below B2 X w4) := (unhide HB3).trans (hbc.mono (unhide HG3))
        have HG4 : Hid (B2 ≤ w4.heap.size) := Nat.le_trans (unhide HG3) hbc.size
        have HX4 : Hid (w4.heap[R1]? = some (.cells (strs d.lies) 9 (0, 0))) := (hbc.block R1 (Array.getElem?_eq_some_iff.1 (unhide HX3)).1).trans (unhide HX3)
        have HC4 : Hid (Cs w4 aoq d.pend) := fun h0 => by
          obtain ⟨g, h1, h2⟩ := unhide HC3 h0
          exact ⟨g, h1, fun i hi => ⟨(hbc.cell (World.block_lt_of_cell? w3 _ (h2 i hi).1)).trans (h2 i hi).1, (hbc.cell (World.block_lt_of_cell? w3 _ (h2 i hi).2)).trans (h2 i hi).2⟩⟩
        have HRN : Hid (R2 ≠ R1 ∧ R2 ∉ F ∧ B2 ≤ R2 ∧ ∀ g, aoq = some ⟨g, 0, none⟩ → 0 < d.pend.length → g ≠ R2) := ⟨by have := (Array.getElem?_eq_some_iff.1 (unhide HX3)).1; omega, fun h => by have := ((unhide HD3).ge _ h).2; omega, Nat.le_trans (unhide HG3) hge, fun g hg h0 => by
          obtain ⟨g', h1, h2⟩ := unhide HC3 h0
          rw [hg] at h1
          cases h1
          have := World.block_lt_of_cell? w3 _ (h2 0 h0).1
          have e : (⟨g, 0 * 2, none⟩ : Addr).block = g := rfl
          omega⟩
        clear htr hge hbc HX3 HD3 HB3 HG3 HC3
        go_wp2_with (at_builtin; refine append_to (by rfl) (.tmp 66) (.tmp 67) 36 36 (by rfl) (some 68) (by rfl) 36 (by rfl) _ _ (by rfl) (by rfl) _ _ hrun ?_; simp only [Act.put, List.setIfInBounds_toArray, List.set_cons_zero, List.set_cons_succ])
        clear hrun
        go_loopw [13] (fun vi wr => ∃ i : Nat, i ≤ q ∧ vi = .int .i64 i ∧ Hid (Tr wr R2 (d.lastK i) ∧ UpS w4 wr [R2])) (fun vi _ => q - (intOf vi).toNat)
        case atStart => exact ⟨0, Nat.zero_le _, rfl, unhide HTR0, UpS.refl _ _⟩
        case round =>
          clear HTR0
          obtain ⟨i, hi, rfl, HI2⟩ := hrel
          by_cases hlt2 : i < q
          · have hii : (i : Int) < (q : Int) := by omega
            have hil : i < d.pend.length := by rw [← unhide HQ]; exact hlt2
            obtain ⟨g, hao, hcs⟩ := unhide HC4 (by omega)
            subst hao
            obtain ⟨cN, cS⟩ := hcs i hil
            have hgR := (unhide HRN).2.2.2 g rfl (by omega)
            have eN := (unhide HI2).2.cell (p := ⟨g, i * 2, none⟩) (World.block_lt_of_cell? w4 _ cN) (by simpa using hgR)
            rw [cN] at eN
            have eS := (unhide HI2).2.cell (p := ⟨g, i * 2 + 1, none⟩) (World.block_lt_of_cell? w4 _ cS) (by simpa using hgR)
            rw [cS] at eS
            have hpg := (unhide HI).dk.ok.pg d.pend[i] (List.getElem_mem hil)
            have hix := ixCells g q cq i hlt2
            obtain ⟨pn, hpn⟩ : ∃ z, z = d.pend[i].1 := ⟨_, rfl⟩
            obtain ⟨SP, hSP⟩ : ∃ z : ByteArray, z = ⟨(d.pend[i].2).toArray⟩ := ⟨_, rfl⟩
            have hpP : pn < P := by rw [hpn, ← (unhide HI).len]; exact hpg.1
            have hpPi : (pn : Int) < (P : Int) := by omega
            have hix2 := ixTexts R2 0 P c2 pn hpP
            rw [Nat.zero_add] at hix2
            have eS' : wr.cell? ⟨g, i * 2 + 1, none⟩ = some (.string SP) := by rw [hSP]; exact eS
            rw [← hpn] at eN
            have hcr := (unhide HI2).1.cell pn (by rw [d.lastK_length, (unhide HI).len]; exact hpP)
            have hcz := (unhide HI2).1.fz pn
            obtain ⟨y, hy⟩ : ∃ y : ByteArray, str ((d.lastK i).getD pn []) = .string y := ⟨_, rfl⟩
            rw [hy] at hcr
            have HNX : Hid (Tr (wr.setCell ⟨R2, pn, none⟩ (.string SP)) R2 (d.lastK (i + 1)) ∧ UpS w4 (wr.setCell ⟨R2, pn, none⟩ (.string SP)) [R2]) := by
              refine ⟨?_, (unhide HI2).2.setCell (.inl (by simp)) _⟩
              have := (unhide HI2).1.set pn d.pend[i].2
              have e : d.lastK (i + 1) = (d.lastK i).set pn d.pend[i].2 := by
                simp only [Dk.lastK]
                rw [List.getD_eq_getElem?_getD, List.getElem?_eq_getElem hil, Option.getD_some, hpn]
              rw [e, hSP]
              exact this
            clear hcs cN cS eS hpg hpn hSP HI2 hy hgR
            go_wp2_with fail
            refine wp_region_last (fun u' => u'.cell? ⟨g, i * 2, none⟩ = some (.int .i64 (pn : Int)) ∧ u'.cell? ⟨g, i * 2 + 1, none⟩ = some (.string SP) ∧ u'.cell? ⟨R2, pn, none⟩ = some (.string y) ∧ u'.frozen? ⟨R2, pn, none⟩ = false) 12 (by kernel_rfl) ⟨eN, eS', hcr, hcz⟩ fun hS => ?_
            refine wpAnyL_take 0 75 (.slice (some ⟨R2, 0, none⟩) P c2) [] rfl rfl (by kernel_rfl) (by kernel_rfl) (by kernel_rfl) (by kernel_rfl) (by kernel_rfl) (fun _ _ _ h => h) (by rfl) (fun u _ => by go_simp) hS ?_
            simp only [Act.put, List.setIfInBounds_toArray, List.set_cons_zero, List.set_cons_succ]
            refine wpAnyL_take 1 76 (.slice (some ⟨g, 0, none⟩) q cq) [] rfl rfl (by kernel_rfl) (by kernel_rfl) (by kernel_rfl) (by kernel_rfl) (by kernel_rfl) (fun _ _ _ h => h) (by rfl) (fun u _ => by go_simp) hS ?_
            simp only [Act.put, List.setIfInBounds_toArray, List.set_cons_zero, List.set_cons_succ]
            refine wpAnyL_take 2 77 (.int .i64 (i : Int)) [] rfl rfl (by kernel_rfl) (by kernel_rfl) (by kernel_rfl) (by kernel_rfl) (by kernel_rfl) (fun _ _ _ h => h) (by rfl) (fun u _ => by go_simp) hS ?_
            simp only [Act.put, List.setIfInBounds_toArray, List.set_cons_zero, List.set_cons_succ]
            refine wpAnyL_take 3 78 (.pointer (some ⟨g, i * 2, none⟩)) [] rfl rfl (by kernel_rfl) (by kernel_rfl) (by kernel_rfl) (by kernel_rfl) (by kernel_rfl) (fun _ _ _ h => h) (by rfl) (fun u _ => by go_simp) hS ?_
            simp only [Act.put, List.setIfInBounds_toArray, List.set_cons_zero, List.set_cons_succ]
            refine wpAnyL_take 4 79 (.pointer (some ⟨g, i * 2, none⟩)) [] rfl rfl (by kernel_rfl) (by kernel_rfl) (by kernel_rfl) (by kernel_rfl) (by kernel_rfl) (fun _ _ _ h => h) (by rfl) (fun u _ => by go_simp) hS ?_
            simp only [Act.put, List.setIfInBounds_toArray, List.set_cons_zero, List.set_cons_succ]
            refine wpAnyL_take 5 80 (.int .i64 (pn : Int)) [] rfl rfl (by kernel_rfl) (by kernel_rfl) (by kernel_rfl) (by kernel_rfl) (by kernel_rfl) (fun _ _ _ h => h) (by rfl) (fun u hu => by obtain ⟨s1, s2, s3, s4⟩ := hu; go_simp) hS ?_
            simp only [Act.put, List.setIfInBounds_toArray, List.set_cons_zero, List.set_cons_succ]
            refine wpAnyL_take 6 81 (.slice (some ⟨g, 0, none⟩) q cq) [] rfl rfl (by kernel_rfl) (by kernel_rfl) (by kernel_rfl) (by kernel_rfl) (by kernel_rfl) (fun _ _ _ h => h) (by rfl) (fun u _ => by go_simp) hS ?_
            simp only [Act.put, List.setIfInBounds_toArray, List.set_cons_zero, List.set_cons_succ]
            refine wpAnyL_take 7 82 (.int .i64 (i : Int)) [] rfl rfl (by kernel_rfl) (by kernel_rfl) (by kernel_rfl) (by kernel_rfl) (by kernel_rfl) (fun _ _ _ h => h) (by rfl) (fun u _ => by go_simp) hS ?_
            simp only [Act.put, List.setIfInBounds_toArray, List.set_cons_zero, List.set_cons_succ]
            refine wpAnyL_take 8 83 (.pointer (some ⟨g, i * 2, none⟩)) [] rfl rfl (by kernel_rfl) (by kernel_rfl) (by kernel_rfl) (by kernel_rfl) (by kernel_rfl) (fun _ _ _ h => h) (by rfl) (fun u _ => by go_simp) hS ?_
            simp only [Act.put, List.setIfInBounds_toArray, List.set_cons_zero, List.set_cons_succ]
            refine wpAnyL_take 9 84 (.pointer (some ⟨g, i * 2 + 1, none⟩)) [] rfl rfl (by kernel_rfl) (by kernel_rfl) (by kernel_rfl) (by kernel_rfl) (by kernel_rfl) (fun _ _ _ h => h) (by rfl) (fun u _ => by go_simp) hS ?_
            simp only [Act.put, List.setIfInBounds_toArray, List.set_cons_zero, List.set_cons_succ]
            refine wpAnyL_take 10 85 (.string SP) [] rfl rfl (by kernel_rfl) (by kernel_rfl) (by kernel_rfl) (by kernel_rfl) (by kernel_rfl) (fun _ _ _ h => h) (by rfl) (fun u hu => by obtain ⟨s1, s2, s3, s4⟩ := hu; go_simp) hS ?_
            simp only [Act.put, List.setIfInBounds_toArray, List.set_cons_zero, List.set_cons_succ]
            refine wpAnyL_take 11 86 (.pointer (some ⟨R2, pn, none⟩)) [] rfl rfl (by kernel_rfl) (by kernel_rfl) (by kernel_rfl) (by kernel_rfl) (by kernel_rfl) (fun _ _ _ h => h) (by rfl) (fun u _ => by go_simp) hS ?_
            simp only [Act.put, List.setIfInBounds_toArray, List.set_cons_zero, List.set_cons_succ]
            refine wpAnyL_one (i := 12) (by kernel_rfl) rfl (by rfl) fun K hK => ?_
            obtain ⟨s1, s2, s3, s4⟩ := hS
            go_simp
            refine hK _ _ (fun h => absurd rfl h) ?_
            clear hK K
            refine wpAnyL_done (by kernel_rfl) ?_ _
            go_wp2
            go_roundw
            case rel => exact ⟨i + 1, by omega, by go_num, (unhide HNX).1.keep rfl, (unhide HNX).2.drew⟩
            case measure => simp [intOf]; omega
          · have hii : q = i := by omega
            subst hii
            have HLK : Hid (∀ j, j < P → wr.cell? ⟨R2, j, none⟩ = some (str (d.page j))) := fun j hj => by
              have hjl : j < d.lies.length := by rw [(unhide HI).len]; exact hj
              rw [(unhide HI2).1.cell j (by rw [d.lastK_length]; exact hjl), unhide HQ, d.lastK_page j hjl]
            have HD5 := hide ((unhide HD4).upd (unhide HI2).2 (fun k hk hx => (unhide HRN).2.1 (by rw [List.mem_singleton] at hx; exact hx ▸ hk)))
            have HB5 : Hid (Below B2 X wr) := (unhide HB4).trans ((unhide HI2).2.below (unhide HG4) (fun k hk => by rw [List.mem_singleton] at hk; rw [hk]; exact (unhide HRN).2.2.1))
            have HG5 : Hid (B2 ≤ wr.heap.size) := Nat.le_trans (unhide HG4) (unhide HI2).2.size
            have HX5 : Hid (wr.heap[R1]? = some (.cells (strs d.lies) 9 (0, 0))) := ((unhide HI2).2.block R1 (Array.getElem?_eq_some_iff.1 (unhide HX4)).1 (by simp; exact fun e => (unhide HRN).1 e.symm)).trans (unhide HX4)
            have HC5 : Hid (Cs wr aoq d.pend) := fun h0 => by
              obtain ⟨g, h1, h2⟩ := unhide HC4 h0
              have hgR := (unhide HRN).2.2.2 g h1 h0
              exact ⟨g, h1, fun i hi => ⟨((unhide HI2).2.cell (World.block_lt_of_cell? w4 _ (h2 i hi).1) (by simpa using hgR)).trans (h2 i hi).1, ((unhide HI2).2.cell (World.block_lt_of_cell? w4 _ (h2 i hi).2) (by simpa using hgR)).trans (h2 i hi).2⟩⟩
            clear HI2 HD4 HB4 HG4 HX4 HC4
            obtain ⟨w5, hw5⟩ : ∃ w5, w5 = wr := ⟨_, rfl⟩
            rw [← hw5] at HLK HD5 HB5 HG5 HX5 HC5
            go_wp2
            rw [← hw5]
            clear hw5
            go_loopw [14] (fun vi wr => ∃ i : Nat, i ≤ P ∧ vi = .int .i64 i ∧ Hid (Below w5.heap.size w5 wr)) (fun vi _ => P - (intOf vi).toNat)
            case atStart => exact ⟨0, Nat.zero_le _, rfl, Below.refl _ _⟩
            case round =>
              obtain ⟨i, hi, rfl, HI3⟩ := hrel
              by_cases hlt3 : i < P
              · have hii : (i : Int) < (P : Int) := by omega
                have hil : i < d.lies.length := by rw [(unhide HI).len]; exact hlt3
                have HRD := hide (kReadD ((unhide HD5).below (unhide HI3)) i hil (unhide HI).clean.off (by rw [← unhide HQ]; omega))
                have hpl := (unhide HI).dk.ok.page_len i hil
                have hix2 := ixTexts R2 0 P c2 i hlt3
                rw [Nat.zero_add] at hix2
                go_wp2_with fail
                refine (unhide HRD).mono ?_
                rintro e w6 ⟨rfl, hx, hb, hs⟩
                obtain ⟨RB, hRB⟩ : ∃ z, z = wr.heap.size := ⟨_, rfl⟩
                rw [← hRB] at hx
                rw [← hRB]
                obtain ⟨SP, hSP⟩ : ∃ z : ByteArray, z = ⟨(d.page i).toArray⟩ := ⟨_, rfl⟩
                have HCV : Hid (∀ W : World, W.heap[RB]? = some (.cells (img (d.page i)) 5 (0, 0)) → (convert 28 9 (.slice (some ⟨RB, 0, none⟩) 1024 1024)).run Try.prog W = .ok (.string SP) W) := fun W hW => by rw [hSP]; exact conv_range (row_range hW) 1024 1024 hpl.symm
                have HB6 : Hid (Below w5.heap.size w5 w6) := (unhide HI3).trans (hb.mono (unhide HI3).size)
                have hc2 : w6.cell? ⟨R2, i, none⟩ = some (.string SP) := by
                  have := unhide HLK i hlt3
                  rw [(unhide HB6).cell (World.block_lt_of_cell? w5 _ this), this, hSP]
                  rfl
                have HS0 : Hid (w6.drew.heap[RB]? = some (.cells (img (d.page i)) 5 (0, 0)) ∧ w6.drew.cell? ⟨R2, i, none⟩ = some (.string SP) ∧ Below w5.heap.size w5 w6.drew) := ⟨hx, hc2, belowDrew (unhide HB6)⟩
                clear hx hb hs hRB hSP hc2 HB6 HRD hpl
                go_wp2_with fail
                refine wp_region_last (fun u' => u'.heap[RB]? = some (.cells (img (d.page i)) 5 (0, 0)) ∧ u'.cell? ⟨R2, i, none⟩ = some (.string SP) ∧ Below w5.heap.size w5 u') 10 (by kernel_rfl) (unhide HS0) fun hS => ?_
                refine wpAnyL_take 0 99 (.int .i64 0) [1, 2] rfl rfl (by kernel_rfl) (by kernel_rfl) (by kernel_rfl) (by kernel_rfl) (by kernel_rfl) (fun _ _ _ h => h) (by rfl) (fun u _ => by go_simp) hS ?_
                simp only [Act.put, List.setIfInBounds_toArray, List.set_cons_zero, List.set_cons_succ]
                refine wpAnyL_take 1 100 (.bool false) [2] rfl rfl (by kernel_rfl) (by kernel_rfl) (by kernel_rfl) (by kernel_rfl) (by kernel_rfl) (fun _ _ _ h => h) (by rfl) (fun u _ => by go_simp) hS ?_
                simp only [Act.put, List.setIfInBounds_toArray, List.set_cons_zero, List.set_cons_succ]
                refine wpAnyL_take 2 101 (.bool false) [] rfl rfl (by kernel_rfl) (by kernel_rfl) (by kernel_rfl) (by kernel_rfl) (by kernel_rfl) (fun _ _ _ h => h) (by rfl) (fun u _ => by go_simp) hS ?_
                simp only [Act.put, List.setIfInBounds_toArray, List.set_cons_zero, List.set_cons_succ]
                refine wpAnyL_take 3 102 (.slice (some ⟨RB, 0, none⟩) 1024 1024) [4, 9] rfl rfl (by kernel_rfl) (by kernel_rfl) (by kernel_rfl) (by kernel_rfl) (by kernel_rfl) (fun _ _ _ h => h) (by rfl) (fun u _ => by go_simp) hS ?_
                simp only [Act.put, List.setIfInBounds_toArray, List.set_cons_zero, List.set_cons_succ]
                refine wpAnyL_take 4 103 (.string SP) [9] rfl rfl (by kernel_rfl) (by kernel_rfl) (by kernel_rfl) (by kernel_rfl) (by kernel_rfl) (fun _ _ _ h => h) (by rfl) (fun u hu => by obtain ⟨s1, s2, s3⟩ := hu; show Sem.run _ (do pure (Next.value (← convert 28 9 (.slice (some ⟨RB, 0, none⟩) 1024 1024)))) u = _; simp only [Sem.run_bind, unhide HCV u s1, Result.andThen_ok, Sem.run_pure]) hS ?_
                simp only [Act.put, List.setIfInBounds_toArray, List.set_cons_zero, List.set_cons_succ]
                refine wpAnyL_take 5 104 (.slice (some ⟨R2, 0, none⟩) P c2) [7, 8, 9] rfl rfl (by kernel_rfl) (by kernel_rfl) (by kernel_rfl) (by kernel_rfl) (by kernel_rfl) (fun _ _ _ h => h) (by rfl) (fun u _ => by go_simp) hS ?_
                simp only [Act.put, List.setIfInBounds_toArray, List.set_cons_zero, List.set_cons_succ]
                refine wpAnyL_take 6 105 (.int .i64 (i : Int)) [7, 8, 9] rfl rfl (by kernel_rfl) (by kernel_rfl) (by kernel_rfl) (by kernel_rfl) (by kernel_rfl) (fun _ _ _ h => h) (by rfl) (fun u _ => by go_simp) hS ?_
                simp only [Act.put, List.setIfInBounds_toArray, List.set_cons_zero, List.set_cons_succ]
                refine wpAnyL_take 7 106 (.pointer (some ⟨R2, i, none⟩)) [8, 9] rfl rfl (by kernel_rfl) (by kernel_rfl) (by kernel_rfl) (by kernel_rfl) (by kernel_rfl) (fun _ _ _ h => h) (by rfl) (fun u _ => by go_simp) hS ?_
                simp only [Act.put, List.setIfInBounds_toArray, List.set_cons_zero, List.set_cons_succ]
                refine wpAnyL_take 8 107 (.string SP) [9] rfl rfl (by kernel_rfl) (by kernel_rfl) (by kernel_rfl) (by kernel_rfl) (by kernel_rfl) (fun _ _ _ h => h) (by rfl) (fun u hu => by obtain ⟨s1, s2, s3⟩ := hu; go_simp) hS ?_
                simp only [Act.put, List.setIfInBounds_toArray, List.set_cons_zero, List.set_cons_succ]
                refine wpAnyL_take 9 108 (.bool false) [] rfl rfl (by kernel_rfl) (by kernel_rfl) (by kernel_rfl) (by kernel_rfl) (by kernel_rfl) (fun _ _ _ h => h) (by rfl) (fun u _ => by go_simp) hS ?_
                simp only [Act.put, List.setIfInBounds_toArray, List.set_cons_zero, List.set_cons_succ]
                refine wpAnyL_one (i := 10) (by kernel_rfl) rfl (by rfl) fun K hK => ?_
                refine wp_val (.bool false) (by go_simp) (some 109) (by rfl) ?_
                refine hK _ _ (fun h => absurd rfl h) ?_
                clear hK K
                simp only [Act.put, List.setIfInBounds_toArray, List.set_cons_zero, List.set_cons_succ]
                refine wpAnyL_done (by kernel_rfl) ?_ _
                have HNX := hide hS.2.2
                clear hS HS0
                go_wp2
                go_roundw
                case rel => exact ⟨i + 1, by omega, by go_num, HNX⟩
                case measure => simp [intOf]; omega
              · have hii : P = i := by omega
                subst hii
                have HD6 := hide ((unhide HD5).below (unhide HI3))
                have HB6 : Hid (Below B2 X wr) := (unhide HB5).trans ((unhide HI3).mono (unhide HG5))
                have HG6 : Hid (B2 ≤ wr.heap.size) := Nat.le_trans (unhide HG5) (unhide HI3).size
                have HX6 : Hid (wr.heap[R1]? = some (.cells (strs d.lies) 9 (0, 0))) := ((unhide HI3).block R1 (Array.getElem?_eq_some_iff.1 (unhide HX5)).1).trans (unhide HX5)
                have HC6 : Hid (Cs wr aoq d.pend) := fun h0 => by
                  obtain ⟨g, h1, h2⟩ := unhide HC5 h0
                  exact ⟨g, h1, fun i hi => ⟨((unhide HI3).cell (World.block_lt_of_cell? w5 _ (h2 i hi).1)).trans (h2 i hi).1, ((unhide HI3).cell (World.block_lt_of_cell? w5 _ (h2 i hi).2)).trans (h2 i hi).2⟩⟩
                have hXB : wr.heap[B]? = some (.cells FV 27 (0, 0)) := ((unhide HB6).block B (unhide HGE)).trans (unhide HXX)
                rw [unhide HFV] at hXB
                have e0 : wr.cell? ⟨B, 0, none⟩ = some (.slice kao ks.length kc) := cell_of_row wr B 0 _ _ _ hXB
                have e1 : wr.cell? ⟨B, 1, none⟩ = some (.int .i64 torn) := cell_of_row wr B 1 _ _ _ hXB
                have e2 : wr.cell? ⟨B, 2, none⟩ = some (.int .i64 cut) := cell_of_row wr B 2 _ _ _ hXB
                have HKS : Hid (Ks wr kao ks F) := ((unhide HKB).below (unhide HBZ _ (unhide HB6))).toKs (fun k hk => Nat.le_of_lt (Nat.lt_of_lt_of_le (unhide HGE) ((unhide HD6).ge k hk).1))
                have HCR := hide (kCrash (unhide HD6) (by rw [← unhide HQ]; omega) kao ks kc torn cut (unhide HKS))
                have HFD : Hid (∀ k, k ∈ F → R1 ≠ k) := fun k hk e => by
                  have h3 := ((unhide HI).dk.ge k hk).2
                  have h4 := (unhide HR1W)
                  omega
                have HGF : Hid (∀ g, aoq = some ⟨g, 0, none⟩ → g ∉ F) := fun g hg hx => (unhide HI).apart g (by rw [hg]; rfl) hx
                clear hXB HKS HD5 HB5 HG5 HX5 HC5 HLK HI3
                unfold fateV at HCR
                go_wp2_with fail
                refine (unhide HCR).mono ?_
                rintro e w7 ⟨rfl, F7, hd, hu, hf⟩
                obtain ⟨d7, hd7⟩ : ∃ z, z = d.crash (share ks torn cut) := ⟨_, rfl⟩
                have HWO : Hid (∀ i, i < d.lies.length → WordsOk (d7.lies.getD i []) (d.lies.getD i []) d.pend i) := fun i hi => by rw [hd7]; exact crash_words d (unhide HI).dk.ok ks torn cut i hi
                have HE7 : Hid (d7.Ok ∧ d7.lies.length = P ∧ d7.pend = [] ∧ d7.off = false) := by rw [hd7]; exact ⟨(unhide HI).dk.ok.crash _, by rw [← (unhide HI).len]; exact d.landed_length _ _, rfl, rfl⟩
                rw [← hd7] at hd
                have HD7 := hide hd
                have HB7 : Hid (Below B2 X w7) := (unhide HB6).trans (hu.below (unhide HG6) (fun k hk => ((unhide HD6).ge k hk).1))
                have HG7 : Hid (B2 ≤ w7.heap.size) := Nat.le_trans (unhide HG6) hu.size
                have HX7 : Hid (w7.heap[R1]? = some (.cells (strs d.lies) 9 (0, 0))) := (hu.block R1 (Array.getElem?_eq_some_iff.1 (unhide HX6)).1 (fun h => unhide HFD R1 h rfl)).trans (unhide HX6)
                have HC7 : Hid (Cs w7 aoq d.pend) := fun h0 => by
                  obtain ⟨g, h1, h2⟩ := unhide HC6 h0
                  have hgF := unhide HGF g h1
                  exact ⟨g, h1, fun i hi => ⟨(hu.cell (World.block_lt_of_cell? wr _ (h2 i hi).1) hgF).trans (h2 i hi).1, (hu.cell (World.block_lt_of_cell? wr _ (h2 i hi).2) hgF).trans (h2 i hi).2⟩⟩
                clear hd hu hf hd7 HCR HD6 HB6 HG6 HX6 HC6 HFD HGF e0 e1 e2
                go_wp2_with fail
                have HDU := hide (kDurableD (unhide HD7))
                rw [(unhide HE7).2.1] at HDU
                refine (unhide HDU).mono ?_
                rintro e w8 ⟨rfl, hx, hb, hs⟩
                obtain ⟨R3, hR3⟩ : ∃ z, z = w7.heap.size := ⟨_, rfl⟩
                rw [← hR3] at hx
                rw [← hR3]
                have HX8 := hide hx
                have HD8 := hide ((unhide HD7).below hb)
                have HB8 : Hid (Below B2 X w8) := (unhide HB7).trans (hb.mono (unhide HG7))
                have HG8 : Hid (B2 ≤ w8.heap.size) := Nat.le_trans (unhide HG7) hb.size
                have HXW : Hid (w8.heap[R1]? = some (.cells (strs d.lies) 9 (0, 0))) := (hb.block R1 (Array.getElem?_eq_some_iff.1 (unhide HX7)).1).trans (unhide HX7)
                have HC8 : Hid (Cs w8 aoq d.pend) := fun h0 => by
                  obtain ⟨g, h1, h2⟩ := unhide HC7 h0
                  exact ⟨g, h1, fun i hi => ⟨(hb.cell (World.block_lt_of_cell? w7 _ (h2 i hi).1)).trans (h2 i hi).1, (hb.cell (World.block_lt_of_cell? w7 _ (h2 i hi).2)).trans (h2 i hi).2⟩⟩
                clear hx hb hs hR3 HDU HD7 HB7 HG7 HX7 HC7
                go_wp2_with fail
                have HPE := hide (kPendingD (unhide HD8))
                rw [(unhide HE7).2.2.1] at HPE
                refine (unhide HPE).mono ?_
                rintro e w8' ⟨rfl, hw⟩
                obtain rfl := hw.symm
                clear hw HPE
                go_wp2
                go_loopw [18] (fun vi wr => ∃ i : Nat, i ≤ P ∧ vi = .int .i64 i ∧ Hid (Below w8.heap.size w8 wr)) (fun vi _ => P - (intOf vi).toNat)
                case atStart => exact ⟨0, Nat.zero_le _, rfl, Below.refl _ _⟩
                case round =>
                  obtain ⟨i, hi, rfl, HI4⟩ := hrel
                  by_cases hlt4 : i < P
                  · have hii : (i : Int) < (P : Int) := by omega
                    have hil : i < d.lies.length := by rw [(unhide HI).len]; exact hlt4
                    have hil7 : i < d7.lies.length := by rw [(unhide HE7).2.1]; exact hlt4
                    have hL7 : (d7.lies.getD i []).length = 1024 := (unhide HE7).1.len _ (getD_mem _ _ hil7 _)
                    have hL1 : (d.lies.getD i []).length = 1024 := (unhide HI).dk.ok.len _ (getD_mem _ _ hil _)
                    have HWD : Hid (∀ W, Below w8.heap.size w8 W → Calls Try.prog 30 #[.string ⟨(d7.lies.getD i []).toArray⟩, .string ⟨(d.lies.getD i []).toArray⟩, .slice aoq q cq, .int .i64 (i : Int)] W fun e u' => e = .returned (.bool true) ∧ u' = W) := fun W hW => by
                      have := lWords (d7.lies.getD i []) (d.lies.getD i []) d.pend i aoq cq W hL7 hL1 (fun q hq => ((unhide HI).dk.ok.pg q hq).2) (by rw [← unhide HQ]; exact hqm) (fun h0 => by
                        obtain ⟨g, h1, h2⟩ := unhide HC8 h0
                        exact ⟨g, h1, fun i hi => ⟨(hW.cell (World.block_lt_of_cell? w8 _ (h2 i hi).1)).trans (h2 i hi).1, (hW.cell (World.block_lt_of_cell? w8 _ (h2 i hi).2)).trans (h2 i hi).2⟩⟩) (unhide HWO i hil)
                      rw [← unhide HQ] at this
                      exact this
                    have hc3 : wr.cell? ⟨R3, i, none⟩ = some (.string ⟨(d7.lies.getD i []).toArray⟩) := by
                      have h3 : w8.cell? ⟨R3, i, none⟩ = some (.string ⟨(d7.lies.getD i []).toArray⟩) := by rw [cell_of_row w8 R3 i _ _ _ (unhide HX8), strs_at _ i hil7]; rfl
                      exact ((unhide HI4).cell (World.block_lt_of_cell? w8 _ h3)).trans h3
                    have HC3I : Hid (w8.cell? ⟨R3, i, none⟩ = some (.string ⟨(d7.lies.getD i []).toArray⟩)) := (show w8.cell? ⟨R3, i, none⟩ = _ from by rw [cell_of_row w8 R3 i _ _ _ (unhide HX8), strs_at _ i hil7]; rfl)
                    have hc1 : wr.cell? ⟨R1, i, none⟩ = some (.string ⟨(d.lies.getD i []).toArray⟩) := by
                      have h3 : w8.cell? ⟨R1, i, none⟩ = some (.string ⟨(d.lies.getD i []).toArray⟩) := by rw [cell_of_row w8 R1 i _ _ _ (unhide HXW), strs_at _ i hil]; rfl
                      exact ((unhide HI4).cell (World.block_lt_of_cell? w8 _ h3)).trans h3
                    have hpg7 : d7.page i = d7.lies.getD i [] := by unfold Dk.page; rw [(unhide HE7).2.2.1]; rfl
                    have HCV0 : Hid (∀ (W : World) (RB : Nat), W.heap[RB]? = some (.cells (img (d7.page i)) 5 (0, 0)) → (convert 28 9 (.slice (some ⟨RB, 0, none⟩) 1024 1024)).run Try.prog W = .ok (.string ⟨(d7.lies.getD i []).toArray⟩) W) := fun W RB hW => by
                      rw [hpg7] at hW
                      exact conv_range (row_range hW) 1024 1024 hL7.symm
                    have hsz7 : (⟨(d7.lies.getD i []).toArray⟩ : ByteArray).size = 1024 := by rw [size_mk]; exact hL7
                    have hix3 := ixTexts R3 0 P P i hlt4
                    have hix1 := ixTexts R1 0 P P i hlt4
                    rw [Nat.zero_add] at hix3 hix1
                    generalize (⟨(d7.lies.getD i []).toArray⟩ : ByteArray) = SI at *
                    generalize (⟨(d.lies.getD i []).toArray⟩ : ByteArray) = SW at *
                    clear hL7 hL1 hpg7 hil
                    go_wp2_with fail
                    refine wp_region_last (fun u' => u'.cell? ⟨R3, i, none⟩ = some (.string SI) ∧ u'.cell? ⟨R1, i, none⟩ = some (.string SW) ∧ Below w8.heap.size w8 u') 19 (by kernel_rfl) ⟨hc3, hc1, belowDrew (unhide HI4)⟩ fun hS => ?_
                    refine wpAnyL_take 0 131 (.slice (some ⟨R3, 0, none⟩) P P) [2, 3, 4, 5, 6] rfl rfl (by kernel_rfl) (by kernel_rfl) (by kernel_rfl) (by kernel_rfl) (by kernel_rfl) (fun _ _ _ h => h) (by rfl) (fun u _ => by go_simp) hS ?_
                    simp only [Act.put, List.setIfInBounds_toArray, List.set_cons_zero, List.set_cons_succ]
                    refine wpAnyL_take 1 132 (.int .i64 (i : Int)) [2, 3, 4, 5, 6] rfl rfl (by kernel_rfl) (by kernel_rfl) (by kernel_rfl) (by kernel_rfl) (by kernel_rfl) (fun _ _ _ h => h) (by rfl) (fun u _ => by go_simp) hS ?_
                    simp only [Act.put, List.setIfInBounds_toArray, List.set_cons_zero, List.set_cons_succ]
                    refine wpAnyL_take 2 133 (.pointer (some ⟨R3, i, none⟩)) [3, 4, 5, 6] rfl rfl (by kernel_rfl) (by kernel_rfl) (by kernel_rfl) (by kernel_rfl) (by kernel_rfl) (fun _ _ _ h => h) (by rfl) (fun u _ => by go_simp) hS ?_
                    simp only [Act.put, List.setIfInBounds_toArray, List.set_cons_zero, List.set_cons_succ]
                    refine wpAnyL_take 3 134 (.string SI) [4, 5, 6] rfl rfl (by kernel_rfl) (by kernel_rfl) (by kernel_rfl) (by kernel_rfl) (by kernel_rfl) (fun _ _ _ h => h) (by rfl) (fun u hu => by obtain ⟨s1, s2, s3⟩ := hu; go_simp) hS ?_
                    simp only [Act.put, List.setIfInBounds_toArray, List.set_cons_zero, List.set_cons_succ]
                    refine wpAnyL_take 4 135 (.int .i64 1024) [5, 6] rfl rfl (by kernel_rfl) (by kernel_rfl) (by kernel_rfl) (by kernel_rfl) (by kernel_rfl) (fun _ _ _ h => h) (by rfl) (fun u _ => by go_simp) hS ?_
                    simp only [Act.put, List.setIfInBounds_toArray, List.set_cons_zero, List.set_cons_succ]
                    refine wpAnyL_take 5 136 (.bool false) [6] rfl rfl (by kernel_rfl) (by kernel_rfl) (by kernel_rfl) (by kernel_rfl) (by kernel_rfl) (fun _ _ _ h => h) (by rfl) (fun u _ => by go_simp) hS ?_
                    simp only [Act.put, List.setIfInBounds_toArray, List.set_cons_zero, List.set_cons_succ]
                    refine wpAnyL_take 6 137 (.bool false) [] rfl rfl (by kernel_rfl) (by kernel_rfl) (by kernel_rfl) (by kernel_rfl) (by kernel_rfl) (fun _ _ _ h => h) (by rfl) (fun u _ => by go_simp) hS ?_
                    simp only [Act.put, List.setIfInBounds_toArray, List.set_cons_zero, List.set_cons_succ]
                    refine wpAnyL_take 7 138 (.slice (some ⟨R3, 0, none⟩) P P) [9, 10, 17, 18] rfl rfl (by kernel_rfl) (by kernel_rfl) (by kernel_rfl) (by kernel_rfl) (by kernel_rfl) (fun _ _ _ h => h) (by rfl) (fun u _ => by go_simp) hS ?_
                    simp only [Act.put, List.setIfInBounds_toArray, List.set_cons_zero, List.set_cons_succ]
                    refine wpAnyL_take 8 139 (.int .i64 (i : Int)) [9, 10, 17, 18] rfl rfl (by kernel_rfl) (by kernel_rfl) (by kernel_rfl) (by kernel_rfl) (by kernel_rfl) (fun _ _ _ h => h) (by rfl) (fun u _ => by go_simp) hS ?_
                    simp only [Act.put, List.setIfInBounds_toArray, List.set_cons_zero, List.set_cons_succ]
                    refine wpAnyL_take 9 140 (.pointer (some ⟨R3, i, none⟩)) [10, 17, 18] rfl rfl (by kernel_rfl) (by kernel_rfl) (by kernel_rfl) (by kernel_rfl) (by kernel_rfl) (fun _ _ _ h => h) (by rfl) (fun u _ => by go_simp) hS ?_
                    simp only [Act.put, List.setIfInBounds_toArray, List.set_cons_zero, List.set_cons_succ]
                    refine wpAnyL_take 10 141 (.string SI) [17, 18] rfl rfl (by kernel_rfl) (by kernel_rfl) (by kernel_rfl) (by kernel_rfl) (by kernel_rfl) (fun _ _ _ h => h) (by rfl) (fun u hu => by obtain ⟨s1, s2, s3⟩ := hu; go_simp) hS ?_
                    simp only [Act.put, List.setIfInBounds_toArray, List.set_cons_zero, List.set_cons_succ]
                    refine wpAnyL_take 11 142 (.slice (some ⟨R1, 0, none⟩) P P) [13, 14, 17, 18] rfl rfl (by kernel_rfl) (by kernel_rfl) (by kernel_rfl) (by kernel_rfl) (by kernel_rfl) (fun _ _ _ h => h) (by rfl) (fun u _ => by go_simp) hS ?_
                    simp only [Act.put, List.setIfInBounds_toArray, List.set_cons_zero, List.set_cons_succ]
                    refine wpAnyL_take 12 143 (.int .i64 (i : Int)) [13, 14, 17, 18] rfl rfl (by kernel_rfl) (by kernel_rfl) (by kernel_rfl) (by kernel_rfl) (by kernel_rfl) (fun _ _ _ h => h) (by rfl) (fun u _ => by go_simp) hS ?_
                    simp only [Act.put, List.setIfInBounds_toArray, List.set_cons_zero, List.set_cons_succ]
                    refine wpAnyL_take 13 144 (.pointer (some ⟨R1, i, none⟩)) [14, 17, 18] rfl rfl (by kernel_rfl) (by kernel_rfl) (by kernel_rfl) (by kernel_rfl) (by kernel_rfl) (fun _ _ _ h => h) (by rfl) (fun u _ => by go_simp) hS ?_
                    simp only [Act.put, List.setIfInBounds_toArray, List.set_cons_zero, List.set_cons_succ]
                    refine wpAnyL_take 14 145 (.string SW) [17, 18] rfl rfl (by kernel_rfl) (by kernel_rfl) (by kernel_rfl) (by kernel_rfl) (by kernel_rfl) (fun _ _ _ h => h) (by rfl) (fun u hu => by obtain ⟨s1, s2, s3⟩ := hu; go_simp) hS ?_
                    simp only [Act.put, List.setIfInBounds_toArray, List.set_cons_zero, List.set_cons_succ]
                    refine wpAnyL_take 15 146 (.slice aoq q cq) [17, 18] rfl rfl (by kernel_rfl) (by kernel_rfl) (by kernel_rfl) (by kernel_rfl) (by kernel_rfl) (fun _ _ _ h => h) (by rfl) (fun u _ => by go_simp) hS ?_
                    simp only [Act.put, List.setIfInBounds_toArray, List.set_cons_zero, List.set_cons_succ]
                    refine wpAnyL_take 16 147 (.int .i64 (i : Int)) [17, 18] rfl rfl (by kernel_rfl) (by kernel_rfl) (by kernel_rfl) (by kernel_rfl) (by kernel_rfl) (fun _ _ _ h => h) (by rfl) (fun u _ => by go_simp) hS ?_
                    simp only [Act.put, List.setIfInBounds_toArray, List.set_cons_zero, List.set_cons_succ]
                    refine wpAnyL_one (i := 17) (by kernel_rfl) rfl (by rfl) fun K hK => ?_
                    go_simp
                    refine (unhide HWD _ hS.2.2).mono ?_
                    rintro e W5 ⟨rfl, hw⟩
                    obtain rfl := hw.symm
                    refine hK _ _ (fun _ => hS) ?_
                    clear hK K hw
                    refine wpAnyL_take 18 149 (.bool false) [] rfl rfl (by kernel_rfl) (by kernel_rfl) (by kernel_rfl) (by kernel_rfl) (by kernel_rfl) (fun _ _ _ h => h) (by rfl) (fun u _ => by go_simp) hS ?_
                    simp only [Act.put, List.setIfInBounds_toArray, List.set_cons_zero, List.set_cons_succ]
                    refine wpAnyL_one (i := 19) (by kernel_rfl) rfl (by rfl) fun K hK => ?_
                    refine wp_val (.bool false) (by go_simp) (some 150) (by rfl) ?_
                    refine hK _ _ (fun h => absurd rfl h) ?_
                    clear hK K
                    simp only [Act.put, List.setIfInBounds_toArray, List.set_cons_zero, List.set_cons_succ]
                    refine wpAnyL_done (by kernel_rfl) ?_ _
                    have HBS := hide hS.2.2
                    clear hS hc3 hc1 HI4 HWD
                    have HRD := hide (kReadD ((unhide HD8).below (unhide HBS)) i hil7 (unhide HE7).2.2.2 (by rw [(unhide HE7).2.2.1]; exact Nat.zero_le _))
                    go_wp2_with fail
                    refine (unhide HRD).mono ?_
                    rintro e w9 ⟨rfl, hx, hb, hs⟩
                    obtain ⟨RB, hRB⟩ : ∃ z, z = wr.drew.heap.size := ⟨_, rfl⟩
                    rw [← hRB] at hx
                    rw [← hRB]
                    have HCV := hide (fun W => unhide HCV0 W RB)
                    have HB9 : Hid (Below w8.heap.size w8 w9) := (unhide HBS).trans (hb.mono (unhide HBS).size)
                    have hc3 : w9.cell? ⟨R3, i, none⟩ = some (.string SI) := by
                      have h3 : w8.cell? ⟨R3, i, none⟩ = some (.string SI) := unhide HC3I
                      exact ((unhide HB9).cell (World.block_lt_of_cell? w8 _ h3)).trans h3
                    have HS0 : Hid (w9.drew.heap[RB]? = some (.cells (img (d7.page i)) 5 (0, 0)) ∧ w9.drew.cell? ⟨R3, i, none⟩ = some (.string SI) ∧ Below w8.heap.size w8 w9.drew) := ⟨hx, hc3, belowDrew (unhide HB9)⟩
                    clear hx hb hs hRB hc3 HRD HBS HB9
                    go_wp2_with fail
                    refine wp_region_last (fun u' => u'.heap[RB]? = some (.cells (img (d7.page i)) 5 (0, 0)) ∧ u'.cell? ⟨R3, i, none⟩ = some (.string SI) ∧ Below w8.heap.size w8 u') 10 (by kernel_rfl) (unhide HS0) fun hS => ?_
                    refine wpAnyL_take 0 157 (.int .i64 0) [1, 2] rfl rfl (by kernel_rfl) (by kernel_rfl) (by kernel_rfl) (by kernel_rfl) (by kernel_rfl) (fun _ _ _ h => h) (by rfl) (fun u _ => by go_simp) hS ?_
                    simp only [Act.put, List.setIfInBounds_toArray, List.set_cons_zero, List.set_cons_succ]
                    refine wpAnyL_take 1 158 (.bool false) [2] rfl rfl (by kernel_rfl) (by kernel_rfl) (by kernel_rfl) (by kernel_rfl) (by kernel_rfl) (fun _ _ _ h => h) (by rfl) (fun u _ => by go_simp) hS ?_
                    simp only [Act.put, List.setIfInBounds_toArray, List.set_cons_zero, List.set_cons_succ]
                    refine wpAnyL_take 2 159 (.bool false) [] rfl rfl (by kernel_rfl) (by kernel_rfl) (by kernel_rfl) (by kernel_rfl) (by kernel_rfl) (fun _ _ _ h => h) (by rfl) (fun u _ => by go_simp) hS ?_
                    simp only [Act.put, List.setIfInBounds_toArray, List.set_cons_zero, List.set_cons_succ]
                    refine wpAnyL_take 3 160 (.slice (some ⟨RB, 0, none⟩) 1024 1024) [4, 9] rfl rfl (by kernel_rfl) (by kernel_rfl) (by kernel_rfl) (by kernel_rfl) (by kernel_rfl) (fun _ _ _ h => h) (by rfl) (fun u _ => by go_simp) hS ?_
                    simp only [Act.put, List.setIfInBounds_toArray, List.set_cons_zero, List.set_cons_succ]
                    refine wpAnyL_take 4 161 (.string SI) [9] rfl rfl (by kernel_rfl) (by kernel_rfl) (by kernel_rfl) (by kernel_rfl) (by kernel_rfl) (fun _ _ _ h => h) (by rfl) (fun u hu => by obtain ⟨s1, s2, s3⟩ := hu; show Sem.run _ (do pure (Next.value (← convert 28 9 (.slice (some ⟨RB, 0, none⟩) 1024 1024)))) u = _; simp only [Sem.run_bind, unhide HCV u s1, Result.andThen_ok, Sem.run_pure]) hS ?_
                    simp only [Act.put, List.setIfInBounds_toArray, List.set_cons_zero, List.set_cons_succ]
                    refine wpAnyL_take 5 162 (.slice (some ⟨R3, 0, none⟩) P P) [7, 8, 9] rfl rfl (by kernel_rfl) (by kernel_rfl) (by kernel_rfl) (by kernel_rfl) (by kernel_rfl) (fun _ _ _ h => h) (by rfl) (fun u _ => by go_simp) hS ?_
                    simp only [Act.put, List.setIfInBounds_toArray, List.set_cons_zero, List.set_cons_succ]
                    refine wpAnyL_take 6 163 (.int .i64 (i : Int)) [7, 8, 9] rfl rfl (by kernel_rfl) (by kernel_rfl) (by kernel_rfl) (by kernel_rfl) (by kernel_rfl) (fun _ _ _ h => h) (by rfl) (fun u _ => by go_simp) hS ?_
                    simp only [Act.put, List.setIfInBounds_toArray, List.set_cons_zero, List.set_cons_succ]
                    refine wpAnyL_take 7 164 (.pointer (some ⟨R3, i, none⟩)) [8, 9] rfl rfl (by kernel_rfl) (by kernel_rfl) (by kernel_rfl) (by kernel_rfl) (by kernel_rfl) (fun _ _ _ h => h) (by rfl) (fun u _ => by go_simp) hS ?_
                    simp only [Act.put, List.setIfInBounds_toArray, List.set_cons_zero, List.set_cons_succ]
                    refine wpAnyL_take 8 165 (.string SI) [9] rfl rfl (by kernel_rfl) (by kernel_rfl) (by kernel_rfl) (by kernel_rfl) (by kernel_rfl) (fun _ _ _ h => h) (by rfl) (fun u hu => by obtain ⟨s1, s2, s3⟩ := hu; go_simp) hS ?_
                    simp only [Act.put, List.setIfInBounds_toArray, List.set_cons_zero, List.set_cons_succ]
                    refine wpAnyL_take 9 166 (.bool false) [] rfl rfl (by kernel_rfl) (by kernel_rfl) (by kernel_rfl) (by kernel_rfl) (by kernel_rfl) (fun _ _ _ h => h) (by rfl) (fun u _ => by go_simp) hS ?_
                    simp only [Act.put, List.setIfInBounds_toArray, List.set_cons_zero, List.set_cons_succ]
                    refine wpAnyL_one (i := 10) (by kernel_rfl) rfl (by rfl) fun K hK => ?_
                    refine wp_val (.bool false) (by go_simp) (some 167) (by rfl) ?_
                    refine hK _ _ (fun h => absurd rfl h) ?_
                    clear hK K
                    simp only [Act.put, List.setIfInBounds_toArray, List.set_cons_zero, List.set_cons_succ]
                    refine wpAnyL_done (by kernel_rfl) ?_ _
                    have HNX := hide hS.2.2
                    clear hS HS0
                    go_wp2
                    go_roundw
                    case rel => exact ⟨i + 1, by omega, by go_num, HNX⟩
                    case measure => simp [intOf]; omega
                  · have hii : P = i := by omega
                    subst hii
                    go_wp2
                    go_ret
                    exact ⟨rfl, (unhide HBZ _ (unhide HB8)).trans ((unhide HI4).mono (Nat.le_trans (Nat.le_of_lt (unhide HGE)) (unhide HG8)))⟩
end Go.Proofs.Ytfdibmbffmgikaa
