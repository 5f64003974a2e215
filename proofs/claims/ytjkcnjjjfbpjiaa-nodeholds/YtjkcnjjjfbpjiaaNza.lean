/- The walk of NodeHolds. -/
import Derived.Test.YtjkcnjjjfbpjiaaNz
namespace Go.Proofs.Ytjkcnjjjfbpjiaa
open Go.RowKit

theorem offk_take {held : List Cl} {j : Nat} {key : ByteArray} (hj : j < held.length) : offk (held.take (j + 1)) key = offk (held.take j) key ++ if held[j].key = key then [] else [held[j]] := by
  unfold offk
  rw [List.take_add_one, List.getElem?_eq_getElem hj, List.filter_append]
  congr 1
  simp only [Option.toList_some, List.filter_cons, List.filter_nil]
  by_cases h : held[j].key = key
  · simp [h]
  · simp [h]
theorem any_take {held : List Cl} {j : Nat} {key : ByteArray} (hj : j < held.length) : ((held.take (j + 1)).any fun c => decide (c.key = key)) = (((held.take j).any fun c => decide (c.key = key)) || decide (held[j].key = key)) := by
  rw [List.take_add_one, List.getElem?_eq_getElem hj, List.any_append]
  simp
theorem ndAt_same {w w' : World} {n : Nd} {G c : Nat} (h : NdAt w n ⟨some ⟨G, 0, none⟩, c, none, 0, none, 0⟩) (hb : w'.heap[G]? = w.heap[G]?) : NdAt w' n ⟨some ⟨G, 0, none⟩, c, none, 0, none, 0⟩ := by
  refine ⟨fun h0 => ?_, fun h0 => ?_, fun h0 => ?_, h.kid, h.len, h.str, h.cap⟩
  · obtain ⟨g, o, e, hr⟩ := h.cells h0
    cases e
    exact ⟨G, 0, rfl, fun j v hv => (World.cell?_of_block (a := ⟨G, 0 + j, none⟩) hb).trans (hr j v hv)⟩
  · obtain ⟨g, o, e, _⟩ := h.keys h0
    cases e
  · obtain ⟨g, o, e, _⟩ := h.kids h0
    cases e
theorem tsz_up (s : ByteArray) : tsz s ≤ 2 + s.size := by unfold tsz; split <;> omega
set_option maxRecDepth 100000 in
set_option maxHeartbeats 16000000 in
theorem holds8_walk (l : List Ct) (lo : Option Addr) (ln lc : Nat) (hln : ln = l.length) (w : World) (hl : Cts w lo l) : Calls Try.prog 12 #[.slice lo ln lc] w fun e w' => e = .returned (.bool true) ∧ Below w.heap.size w w' := by
  obtain ⟨B, hB⟩ : ∃ B, B = w.heap.size := ⟨_, rfl⟩
  have HB := hide hB
  have HL := hide hl
  have HLN := hide hln
  have hlni : (ln : Int) ≤ 140737488355328 := by have := hl.len; omega
  obtain ⟨i0, hi, hz0, hz1, hz2⟩ := cell_parts
  have HCI := hide (And.intro hi (And.intro hz0 (And.intro hz1 hz2)))
  rw [← hB]
  clear hB hl hln hi hz0 hz1 hz2
  go_enter Try.func12, Try.ntmps12
  go_wp2_with fail
  refine (nAwake w).mono ?_
  rintro e W1 ⟨rfl, hb1⟩
  rw [← unhide HB] at hb1
  have HW1 := hide hb1
  obtain ⟨M, hM⟩ : ∃ M, M = W1.heap.size := ⟨_, rfl⟩
  have HM := hide hM
  clear hb1 hM
  go_wp2_with (first
    | ((with_reducible refine wpList_alloc_node (by rfl) (by rfl) (some 3) (by rfl) M (unhide HM) ?_); intro W2 HX2 HW2 HS2; simp only [Act.put, List.setIfInBounds_toArray, List.set_cons_zero, List.set_cons_succ])
    | ((with_reducible refine wpList_store_node (by rfl) (.tmp 3) (.tmp 21) (by rfl) M true none 0 0 none 0 0 none 0 0 (by with_unfolding_all rfl) (by with_unfolding_all rfl) (unhide HX2) ?_); intro W3 HX3 HE3; simp only [Act.put])
    | fail)
  have HI0 : Hid (Hw w W3 B M [] none 0 [] (.slice none 0 0)) := by
    have hb3 : Below M W1 W3 := by rw [unhide HE3]; exact belowRow (unhide HW2) (Nat.le_refl _) _
    have hBM : B ≤ M := by rw [unhide HM, unhide HB]; exact (unhide HW1).size
    exact ⟨unhide HB, (unhide HW1).trans (hb3.mono hBM), hBM, unhide HX3, NdAt.none _, fun b o e => (by cases e), Lf.of emptyLeaf_ok rfl, List.Perm.refl _, World.ownsRow_nil _ _ _ _⟩
  clear HX2 HW2 HS2 HX3 HE3 HW1 HM
  go_loopw [4, 5] (fun hv i wr => ∃ (k : Nat) (cs : List Cl) (ca : Option Addr) (cc : Nat) (held : List Cl) (ho : Option Addr) (hc : Nat), k ≤ ln ∧ i = .int .i64 k ∧ hv = .slice ho held.length hc ∧ Hid (Hw w wr B M cs ca cc held (.slice ho held.length hc))) (fun _ i _ => ln - (intOf i).toNat)
  case atStart => exact ⟨0, [], none, 0, [], none, 0, Nat.zero_le _, rfl, rfl, unhide HI0⟩
  case round =>
    clear HI0
    obtain ⟨k, cs, ca, cc, held, ho, hc, hk, rfl, rfl, HI⟩ := hrel
    obtain ⟨hn, hhn⟩ : ∃ hn, hn = held.length := ⟨_, rfl⟩
    have HHN := hide hhn
    rw [← hhn] at HI ⊢
    have hnl : hn ≤ 1992 := by
      have h1 := (unhide HI).lf.toOk.lens.1
      have h2 := (unhide HI).perm.length_eq
      have h1 : cs.length ≤ 1992 := h1
      omega
    have hni : (hn : Int) ≤ 1992 := by omega
    clear hhn
    by_cases hlt : k < ln
    · have hki : (k : Int) < (ln : Int) := by omega
      have hkl : k < l.length := by rw [← unhide HLN]; exact hlt
      obtain ⟨g, o, hao, hrg⟩ := (unhide HL).at' (by omega)
      subst hao
      have hix := ixCuts g o ln lc k hlt
      have hst := (unhide HL).str _ (List.getElem_mem hkl)
      have hrk := hrg k hkl
      generalize l[k] = x at *
      obtain ⟨tk, key, val⟩ := x
      have HST : Hid (key.size ≤ 140737488355328 ∧ val.size ≤ 140737488355328) := hst
      have hbel := (unhide HI).bel
      have hgw : g < B := by rw [unhide HB]; exact World.block_lt_of_cell? w ⟨g, o + k * 3, none⟩ (hrk 0 _ rfl)
      have x0 : wr.cell? ⟨g, o + k * 3, none⟩ = some (.bool tk) := (hbel.cell (p := ⟨g, o + k * 3, none⟩) hgw).trans (hrk 0 _ rfl)
      have x1 : wr.cell? ⟨g, o + k * 3 + 1, none⟩ = some (.string key) := (hbel.cell (p := ⟨g, o + k * 3 + 1, none⟩) hgw).trans (hrk 1 _ rfl)
      have x2 : wr.cell? ⟨g, o + k * 3 + 2, none⟩ = some (.string val) := (hbel.cell (p := ⟨g, o + k * 3 + 2, none⟩) hgw).trans (hrk 2 _ rfl)
      generalize o + k * 3 = j3 at *
      obtain ⟨S, hS⟩ : ∃ S, S = wr.heap.size := ⟨_, rfl⟩
      have HS := hide hS
      clear hrk hrg hst hbel hgw hkl hS
      go_wp2_with (first
        | ((with_reducible refine wpList_alloc_cut (by rfl) (by rfl) (some 6) (by rfl) S (unhide HS) ?_); intro W4 HX4 HW4 HS4; simp only [Act.put, List.setIfInBounds_toArray, List.set_cons_zero, List.set_cons_succ])
        | ((with_reducible refine wpList_store_cut (by rfl) (.tmp 6) (.tmp 31) (by rfl) S tk key val (by with_unfolding_all rfl) (by with_unfolding_all rfl) (unhide HX4) ?_); intro W5 HX5 HE5; simp only [Act.put])
        | fail)
      have HI5 : Hid (Hw w W5 B M cs ca cc held (.slice ho hn hc) ∧ W5.heap.size = S + 1 ∧ M < S) := by
        have hb : Below S wr W5 := by rw [unhide HE5]; exact belowRow (unhide HW4) (Nat.le_refl _) _
        refine ⟨(unhide HI).new (by rw [← unhide HS]; exact hb), ?_, by rw [unhide HS]; exact (unhide HI).lt⟩
        rw [unhide HE5, ← unhide HS4]; simp [World.setRow]
      have HBo : Hid (Below S wr W5) := by rw [unhide HE5]; exact belowRow (unhide HW4) (Nat.le_refl _) _
      have HIo := HI
      clear HX4 HW4 HS4 HE5 HI x0 x1 x2 hix
      go_loopw [7, 8, 9] (fun rv tv jv wq => ∃ (j : Nat) (ro : Option Addr) (rc : Nat), j ≤ hn ∧ jv = .int .i64 j ∧ rv = .slice ro (offk (held.take j) key).length rc ∧ tv = .bool ((held.take j).any fun c => decide (c.key = key)) ∧ Hid (Below (S + 1) W5 wq ∧ wq.ownsRow (S + 1) 66 2 (.slice ro (offk (held.take j) key).length rc) (offk (held.take j) key).length (flatC (offk (held.take j) key)))) (fun _ _ jv _ => hn - (intOf jv).toNat)
      case atStart => exact ⟨0, none, 0, Nat.zero_le _, rfl, rfl, rfl, Below.refl _ _, World.ownsRow_nil _ _ _ _⟩
      case round =>
        obtain ⟨j, ro, rc, hj, rfl, rfl, rfl, HJ⟩ := hrel
        obtain ⟨rn, hrn⟩ : ∃ rn, rn = (offk (held.take j) key).length := ⟨_, rfl⟩
        have HRN := hide hrn
        have hrl : rn ≤ 1992 := by
          rw [hrn]
          have h1 : (offk (held.take j) key).length ≤ (held.take j).length := List.length_filter_le _ _
          rw [List.length_take] at h1
          omega
        rw [← hrn] at HJ ⊢
        clear hrn
        by_cases hjl : j < hn
        · have hji : (j : Int) < (hn : Int) := by omega
          have hjh : j < held.length := by rw [← unhide HHN]; exact hjl
          have hlies : Lies wr ho (flatC held) := by
            have h1 : W5.ownsRow (M + 1) 66 2 (.slice ho hn hc) hn (flatC held) := by have := (unhide HI5).1.own; rw [← unhide HHN] at this; exact this
            exact (own_lies h1).below (by rw [(unhide HI5).2.1]; exact (unhide HJ).1)
          obtain ⟨g2, o2, hho, c0, c1⟩ := hlies.cl hjh
          subst hho
          have hix := ixCells g2 o2 hn hc j hjl
          obtain ⟨z0, z1, z2⟩ := box3 (((unhide HJ).1.block S (Nat.lt_succ_self S)).trans (unhide HX5))
          have HOT := hide (offk_take (key := key) hjh)
          have HAT := hide (any_take (key := key) hjh)
          generalize held[j] = c at *
          obtain ⟨q, p⟩ := c
          replace c0 : wr.cell? ⟨g2, o2 + j * 2, none⟩ = some (.string q) := c0
          replace c1 : wr.cell? ⟨g2, o2 + j * 2 + 1, none⟩ = some (.string p) := c1
          generalize o2 + j * 2 = j2 at *
          clear hlies hjh
          obtain ⟨tb, htb⟩ : ∃ tb, tb = ((held.take j).any fun c => decide (c.key = key)) := ⟨_, rfl⟩
          have HTB := hide htb
          rw [← htb]
          clear htb
          by_cases hq : q = key
          · have hqb : (q.toList == key.toList) = true := by rw [hq]; simp
            have HE1 : Hid (offk (held.take (j + 1)) key = offk (held.take j) key ∧ ((held.take (j + 1)).any fun c => decide (c.key = key)) = true) := by
              refine ⟨?_, ?_⟩
              · rw [unhide HOT, if_pos hq, List.append_nil]
              · rw [unhide HAT, show decide ((Cl.mk q p).key = key) = true from decide_eq_true hq, Bool.or_true]
            clear hq
            go_wp2_with fail
            go_quiet (fail)
            go_wp2
            go_roundw
            case rel => exact ⟨j + 1, ro, rc, by omega, by go_num, by rw [(unhide HE1).1, ← unhide HRN], by rw [(unhide HE1).2], by rw [(unhide HE1).1, ← unhide HRN]; exact ⟨belowDrewN (unhide HJ).1 _, W.owns_same (unhide HJ).2 fun _ _ => rfl⟩⟩
            case measure => simp [intOf]; omega
          · have hqb : (q.toList == key.toList) = false := by
              rw [Bool.eq_false_iff]
              intro h
              exact hq (ba_list (by simpa using h))
            have HE1 : Hid (offk (held.take (j + 1)) key = offk (held.take j) key ++ [⟨q, p⟩] ∧ ((held.take (j + 1)).any fun c => decide (c.key = key)) = tb) := by
              refine ⟨?_, ?_⟩
              · rw [unhide HOT, if_neg hq]
              · rw [unhide HAT, show decide ((Cl.mk q p).key = key) = false from decide_eq_false hq, Bool.or_false, unhide HTB]
            clear hq
            go_wp2_with fail
            go_quiet (fail)
            have HOW : Hid ((wr.drewN nq).ownsRow (S + 1) 66 2 (.slice ro rn rc) rn (flatC (offk (held.take j) key)) ∧ Below (S + 1) W5 (wr.drewN nq) ∧ S + 1 ≤ (wr.drewN nq).heap.size) := by
              refine ⟨W.owns_same (unhide HJ).2 fun _ _ => rfl, belowDrewN (unhide HJ).1 _, ?_⟩
              have := (unhide HJ).1.size
              rw [(unhide HI5).2.1] at this
              exact this
            go_wp2_with (first
              | (at_builtin; refine W.wpList_put _ rfl (.tmp 46) (.tmp 51) 22 rfl (S + 1) 66 i0 (.agg #[.string ⟨#[]⟩, .string ⟨#[]⟩]) 2 32 undC (unhide HCI).1 (unhide HCI).2.1 (unhide HCI).2.2.1 (unhide HCI).2.2.2 rfl (by decide) (.slice ro rn rc) rn (flatC (offk (held.take j) key)) rfl ((unhide HOW).1.alloc _) ⟨_, 0, none⟩ 1 1 [.string q, .string p] rfl rfl (two_new _ _ _ _) (by simp [Value.oneCell']) (by simp only [maxLen]; omega) (by omega) (by have h9 := (unhide HOW).2.2; rw [World.size_alloc]; omega) ?_; intro v' w10 hown' hgrow hnew; clear hnew; obtain ⟨ro2, rc2, rfl⟩ := W.owns_shape hown'; have HO2 := hide hown'; have HGR := hide hgrow; clear hown' hgrow)
              | fail)
            have HN2 : Hid (Below (S + 1) W5 w10 ∧ w10.ownsRow (S + 1) 66 2 (.slice ro2 (rn + 1) rc2) (rn + 1) (flatC (offk (held.take j) key ++ [(⟨q, p⟩ : Cl)]))) := by
              refine ⟨((unhide HOW).2.1.alloc (unhide HOW).2.2 _).grown (unhide HGR) (by have h9 := (unhide HOW).2.2; rw [World.size_alloc]; omega) (fun k e => (own_lt' (unhide HOW).1 e).1), ?_⟩
              rw [flatC_append]
              exact unhide HO2
            have HRN2 : Hid (rn + 1 = (offk (held.take (j + 1)) key).length) := by rw [(unhide HE1).1, List.length_append, ← unhide HRN]; rfl
            clear HO2 HGR HOW
            go_wp2
            go_roundw
            case rel => exact ⟨j + 1, ro2, rc2, by omega, by go_num, by rw [← unhide HRN2], by rw [(unhide HE1).2], by rw [← unhide HRN2, (unhide HE1).1]; exact unhide HN2⟩
            case measure => simp [intOf]; omega
        · obtain rfl : j = hn := by omega
          have hji : ¬ (j : Int) < (j : Int) := by omega
          have htk : held.take j = held := List.take_of_length_le (by rw [unhide HHN]; exact Nat.le_refl _)
          rw [htk] at HJ HRN ⊢
          obtain ⟨R, hR⟩ : ∃ R, R = offk held key := ⟨_, rfl⟩
          rw [← hR] at HJ HRN
          have HRR := hide hR
          obtain ⟨tb, htb⟩ : ∃ tb, tb = (held.any fun c => decide (c.key = key)) := ⟨_, rfl⟩
          have HIq : Hid (Hw w wr B M cs ca cc held (.slice ho j hc)) := (unhide HI5).1.new (by rw [(unhide HI5).2.1]; exact (unhide HJ).1)
          have HTF : Hid (tb = Nd.found ⟨true, cs, [], []⟩ key) := by
            have h1 := (unhide HIq).lf.there key
            have h2 : tb = true ↔ ∃ c ∈ held, c.key = key := by rw [htb]; simp [List.any_eq_true]
            have h3 : (∃ c ∈ held, c.key = key) ↔ ∃ c ∈ cs, c.key = key := ⟨fun ⟨c, hc, e⟩ => ⟨c, (unhide HIq).perm.mem_iff.1 hc, e⟩, fun ⟨c, hc, e⟩ => ⟨c, (unhide HIq).perm.mem_iff.2 hc, e⟩⟩
            have h4 : tb = true ↔ Nd.found ⟨true, cs, [], []⟩ key = true := h2.trans (h3.trans h1.symm)
            show tb = _
            cases tb <;> cases hx : Nd.found ⟨true, cs, [], []⟩ key
            · rfl
            · rw [hx] at h4; exact absurd (h4.2 rfl) (by simp)
            · rw [hx] at h4; exact absurd (h4.1 rfl) (by simp)
            · rfl
          have HBq := hide ((unhide HBo).trans ((unhide HJ).1.mono (Nat.le_succ S)))
          have HMS : Hid (M < S ∧ S + 1 ≤ wr.heap.size) := ⟨(unhide HI5).2.2, by have := (unhide HJ).1.size; rw [(unhide HI5).2.1] at this; exact this⟩
          have HX6 := hide (((unhide HJ).1.block S (Nat.lt_succ_self S)).trans (unhide HX5))
          have HOR : Hid (wr.ownsRow (S + 1) 66 2 (.slice ro rn rc) rn (flatC R)) := (unhide HJ).2
          have HREF : Hid (Nd.refused ⟨true, cs, [], []⟩ true = 0) := Nd.refused_zero.2 ⟨(unhide HIq).lf.toOk, rfl⟩
          rw [← htb]
          clear hR htb HJ HX5 HI5 htk
          obtain ⟨z0, z1, z2⟩ := box3 (unhide HX6)
          obtain ⟨y0, y1, y2, y3⟩ := box4 (unhide HIq).box
          cases tk
          · have HT := hide (nPut ⟨true, cs, [], []⟩ ⟨ca, cc, none, 0, none, 0⟩ key val (unhide HST).1 (unhide HST).2 wr (unhide HIq).nd)
            replace HT : Hid (Calls Try.prog 35 #[.agg #[.bool true, .slice ca cs.length cc, .slice none 0 0, .slice none 0 0], .string key, .string val] wr fun e u' => ∃ V E, e = .returned (.tuple #[V, .int .i64 E]) ∧ PutR wr u' ⟨true, cs, [], []⟩ key val V E ∧ Below wr.heap.size wr u') := unhide HT
            by_cases hk0 : key.size = 0
            · have hkb : (key.toList == []) = true := by simp [empty_list, hk0]
              go_wp2_with fail
              refine (unhide HT).mono ?_
              rintro e W7 ⟨V, E, rfl, htr, hb7⟩
              obtain ⟨rfl, rfl⟩ : E = 1 ∧ V = zeroV := by
                rcases htr with ⟨h1, _⟩ | ⟨_, _, h1, h2⟩ | ⟨_, h1, _⟩ | ⟨_, h1, _⟩
                · exact absurd (unhide HREF) h1
                · exact ⟨h1, h2⟩
                · exact absurd hk0 h1
                · exact absurd hk0 h1
              have HI7 : Hid (Hw w W7 B M cs ca cc held (.slice ho j hc)) := (unhide HIq).new hb7
              obtain ⟨T, hT⟩ : ∃ T, T = W7.heap.size := ⟨_, rfl⟩
              have HTT := hide hT
              have HX7 := hide ((hb7.block S (by have := (unhide HMS).2; omega)).trans (unhide HX6))
              have HST7 : Hid (S < T ∧ M < S ∧ wr.heap.size ≤ T) := ⟨by rw [hT]; have := hb7.size; have := (unhide HMS).2; omega, (unhide HMS).1, by rw [hT]; exact hb7.size⟩
              clear htr hb7 hT HIq HX6 HOR HMS HT z0 z1 z2 y0 y1 y2 y3 hk0
              unfold zeroV
              go_wp2_with (first
                | ((with_reducible refine wpList_alloc_node (by rfl) (by rfl) (some 12) (by rfl) T (unhide HTT) ?_); intro W8 HX8 HW8 HS8; simp only [Act.put, List.setIfInBounds_toArray, List.set_cons_zero, List.set_cons_succ])
                | ((with_reducible refine wpList_store_node (by rfl) (.tmp 12) (.tmp 75) (by rfl) T false none 0 0 none 0 0 none 0 0 (by with_unfolding_all rfl) (by with_unfolding_all rfl) (unhide HX8) ?_); intro W9 HX9 HE9; simp only [Act.put]; have HB9 : Hid (Below T W7 W9) := (by rw [unhide HE9]; exact belowRow (unhide HW8) (Nat.le_refl _) _); obtain ⟨z0, z1, z2⟩ := box3 (((unhide HB9).block S (unhide HST7).1).trans (unhide HX7)))
                | fail)
              have HI9 : Hid (Hw w W9 B M cs ca cc held (.slice ho j hc)) := (unhide HI7).new (by rw [← unhide HTT]; exact unhide HB9)
              clear HX8 HW8 HS8 HX9 HE9 HI7 z0 z1 z2 HB9 HX7
              go_wp2
              go_roundw
              case rel => exact ⟨k + 1, cs, ca, cc, held, ho, hc, by omega, by go_num, by rw [← unhide HHN], by rw [← unhide HHN]; exact unhide HI9⟩
              case measure => simp [intOf]; omega
            · have hkb : (key.toList == []) = false := by simp [empty_list, hk0]
              by_cases hbad : 320 < key.size + val.size ∨ 1992 < 3 + ((offk held key ++ [(⟨key, val⟩ : Cl)]).map Cl.sz).sum
              · have HBAD := hide hbad
                clear hbad
                go_wp2_with fail
                refine (unhide HT).mono ?_
                rintro e W7 ⟨V, E, rfl, htr, hb7⟩
                obtain ⟨rfl, rfl⟩ : E = 82 ∧ V = zeroV := by
                  have hch := (unhide HIq).lf.put_bad (key := key) (val := val) (unhide HIq).perm (unhide HBAD)
                  rcases htr with ⟨h1, _⟩ | ⟨_, h1, _⟩ | ⟨_, _, _, h1, h2⟩ | ⟨_, _, h1, _⟩
                  · exact absurd (unhide HREF) h1
                  · exact absurd h1 hk0
                  · exact ⟨h1.trans hch, h2⟩
                  · rw [hch] at h1; cases h1
                obtain ⟨T, hT⟩ : ∃ T, T = W7.heap.size := ⟨_, rfl⟩
                have HTT := hide hT
                have HX7 := hide ((hb7.block S (by have := (unhide HMS).2; omega)).trans (unhide HX6))
                have HST7 : Hid (S < T ∧ M < S ∧ wr.heap.size ≤ T) := ⟨by rw [hT]; have := hb7.size; have := (unhide HMS).2; omega, (unhide HMS).1, by rw [hT]; exact hb7.size⟩
                have HB7 : Hid (Below S wr W7) := hb7.mono (by have := (unhide HMS).2; omega)
                have HO7 : Hid (∀ W9, Below T W7 W9 → W9.ownsRow (S + 1) 66 2 (.slice ro rn rc) rn (flatC R)) := fun W9 hb9 => W.owns_same (unhide HOR) fun k hk => (hb9.block k (by have := (own_lt' (unhide HOR) hk).2; have := (unhide HST7).2.2; omega)).trans (hb7.block k (own_lt' (unhide HOR) hk).2)
                clear htr hb7 hT HX6 HMS HT z0 z1 z2 y0 y1 y2 y3 hk0
                unfold zeroV
                go_wp2_with (first
                  | ((with_reducible refine wpList_alloc_node (by rfl) (by rfl) (some 12) (by rfl) T (unhide HTT) ?_); intro W8 HX8 HW8 HS8; simp only [Act.put, List.setIfInBounds_toArray, List.set_cons_zero, List.set_cons_succ])
                  | ((with_reducible refine wpList_store_node (by rfl) (.tmp 12) (.tmp 75) (by rfl) T false none 0 0 none 0 0 none 0 0 (by with_unfolding_all rfl) (by with_unfolding_all rfl) (unhide HX8) ?_); intro W9 HX9 HE9; simp only [Act.put]; have HB9 : Hid (Below T W7 W9) := (by rw [unhide HE9]; exact belowRow (unhide HW8) (Nat.le_refl _) _); obtain ⟨z0, z1, z2⟩ := box3 (((unhide HB9).block S (unhide HST7).1).trans (unhide HX7)))
                  | (at_builtin; refine W.wpList_put _ rfl (.tmp 82) (.tmp 88) 22 rfl (S + 1) 66 i0 (.agg #[.string ⟨#[]⟩, .string ⟨#[]⟩]) 2 32 undC (unhide HCI).1 (unhide HCI).2.1 (unhide HCI).2.2.1 (unhide HCI).2.2.2 rfl (by decide) (.slice ro rn rc) rn (flatC R) rfl ((unhide HO7 W9 (unhide HB9)).alloc _) ⟨_, 0, none⟩ 1 1 [.string key, .string val] rfl rfl (two_new _ _ _ _) (by simp [Value.oneCell']) (by simp only [maxLen]; omega) (by omega) (by have h9 := (unhide HB9).size; have := (unhide HST7).1; have := unhide HTT; rw [World.size_alloc]; omega) ?_; intro v' w10 hown' hgrow hnew; clear hnew; obtain ⟨ro2, rc2, rfl⟩ := W.owns_shape hown'; have HO2 := hide hown'; have HGR := hide hgrow; clear hown' hgrow)
                  | fail)
                have HKEEP : Hid (∀ k, k < W9.heap.size → (k < S + 1 ∨ wr.heap.size ≤ k) → w10.heap[k]? = W9.heap[k]?) := fun k hk hs => by
                  refine ((unhide HGR).block k (by rw [World.size_alloc]; omega) (fun e => ?_)).trans (Below.heap_alloc W9 _ k hk)
                  have h1 := own_lt' (unhide HOR) e.symm
                  omega
                have HB10 : Hid (Below S W9 w10) := ⟨(unhide HGR).os, (unhide HGR).tape, (unhide HGR).output, Nat.le_trans (by rw [World.size_alloc]; omega) (unhide HGR).size, fun k hk => unhide HKEEP k (by have := (unhide HB9).size; have := (unhide HST7).1; have := unhide HTT; omega) (.inl (by omega))⟩
                have HI10 : Hid (Hw w w10 B M cs ca cc held (.slice ho j hc)) := (unhide HIo).new (by
                  rw [← unhide HS]
                  exact ((unhide HBq).trans ((unhide HB7).trans (((unhide HB9).mono (Nat.le_of_lt (unhide HST7).1)).trans (unhide HB10)))))
                obtain ⟨R2, hR2⟩ : ∃ R2, R2 = R ++ [(⟨key, val⟩ : Cl)] := ⟨_, rfl⟩
                have HR2 := hide hR2
                have HO10 : Hid (w10.ownsRow (S + 1) 66 2 (.slice ro2 (rn + 1) rc2) (rn + 1) (flatC R2)) := by rw [hR2, flatC_append]; exact unhide HO2
                have HRL : Hid (rn + 1 = R2.length) := by rw [hR2, List.length_append, ← unhide HRN]; rfl
                have HSZ : Hid (∀ c ∈ R2, c.key.size ≤ 140737488355328 ∧ c.val.size ≤ 140737488355328) := fun c hc => by
                  rw [hR2] at hc
                  rcases List.mem_append.1 hc with hc | hc
                  · rw [unhide HRR] at hc
                    have := (unhide HIo).lf.ok c ((unhide HIo).perm.mem_iff.1 (List.mem_filter.1 hc).1)
                    have h2 := this.2
                    exact ⟨by omega, by omega⟩
                  · rw [List.mem_singleton.1 hc]; exact unhide HST
                have HXT : Hid (w10.heap[T]? = some (.cells #[.bool false, .slice none 0 0, .slice none 0 0, .slice none 0 0] 26 (0, 0))) := (unhide HKEEP T (Array.getElem?_eq_some_iff.1 (unhide HX9)).1 (.inr (unhide HST7).2.2)).trans (unhide HX9)
                have HXS : Hid (w10.heap[S]? = some (.cells #[.bool false, .string key, .string val] 64 (0, 0))) := (unhide HKEEP S (by have := (unhide HB9).size; have := (unhide HST7).1; have := unhide HTT; omega) (.inl (Nat.lt_succ_self S))).trans (((unhide HB9).block S (unhide HST7).1).trans (unhide HX7))
                clear hR2 HO2 HGR HX8 HW8 HS8 HX9 HE9 z0 z1 z2 HKEEP
                generalize hrn1 : rn + 1 = r1 at *
                have hr1 : r1 ≤ 1993 := by omega
                have hr1i : (r1 : Int) ≤ 1993 := by omega
                clear hrn1
                go_loopw [14, 15] (fun zv mv wq => ∃ (m z : Nat), m ≤ r1 ∧ mv = .int .i64 m ∧ zv = .int .i64 ((3 + ((R2.take m).map Cl.sz).sum : Nat) : Int) ∧ wq = w10.drewN z) (fun _ mv _ => r1 - (intOf mv).toNat)
                case atStart => exact ⟨0, 0, Nat.zero_le _, rfl, rfl, rfl⟩
                case round =>
                  obtain ⟨m, z, hm, rfl, rfl, hw⟩ := hrel
                  obtain rfl := hw
                  by_cases hml : m < r1
                  · have hmi : (m : Int) < (r1 : Int) := by omega
                    have hmh : m < R2.length := by rw [← unhide HRL]; exact hml
                    obtain ⟨g2, o2, hro, c0, c1⟩ := (own_lies (unhide HO10)).cl hmh
                    subst hro
                    have hix := ixCells g2 o2 r1 rc2 m hml
                    have hsz := unhide HSZ _ (List.getElem_mem hmh)
                    have hsum : ((R2.take (m + 1)).map Cl.sz).sum = ((R2.take m).map Cl.sz).sum + (tsz R2[m].key + tsz R2[m].val) := by
                      rw [List.take_add_one, List.getElem?_eq_getElem hmh, List.map_append, List.sum_append]
                      simp [Cl.sz]
                    have hle : ((R2.take m).map Cl.sz).sum ≤ 281474976710660 * 1993 := by
                      have h1 := sum_le_mul ((R2.take m).map Cl.sz) 281474976710660 (fun x hx => by
                        obtain ⟨c, hc, rfl⟩ := List.mem_map.1 hx
                        have h1 := unhide HSZ c (List.mem_of_mem_take hc)
                        have h2 := tsz_up c.key
                        have h3 := tsz_up c.val
                        unfold Cl.sz; omega)
                      rw [List.length_map, List.length_take] at h1
                      have := Nat.mul_le_mul_left 281474976710660 (show min m R2.length ≤ 1993 by omega)
                      omega
                    have HSUM := hide hsum
                    have ht1 := tsz_up R2[m].key
                    have ht2 := tsz_up R2[m].val
                    have HL1 := hide (fun v : World => nLong R2[m].key hsz.1 v)
                    have HL2 := hide (fun v : World => nLong R2[m].val hsz.2 v)
                    generalize R2[m].key = q at *
                    generalize R2[m].val = p at *
                    generalize tsz q = tq at *
                    generalize tsz p = tp at *
                    generalize ((R2.take m).map Cl.sz).sum = sm at *
                    generalize o2 + m * 2 = j2 at *
                    clear hmh hsum
                    obtain ⟨s3, hs3⟩ : ∃ s3, s3 = 3 + sm := ⟨_, rfl⟩
                    have HS3 := hide hs3
                    have hs3i : (s3 : Int) ≤ 560979628584345383 := by omega
                    have htqi : (tq : Int) ≤ 140737488355330 := by have := hsz.1; omega
                    have htpi : (tp : Int) ≤ 140737488355330 := by have := hsz.2; omega
                    rw [← hs3]
                    clear hs3 hle hsz ht1 ht2
                    have hw1 : IntKind.i64.wrap ((s3 : Int) + (tq : Int)) = (s3 : Int) + (tq : Int) := by rw [IntKind.wrap_i64]; omega
                    have hw2 : IntKind.i64.wrap ((s3 : Int) + (tq : Int) + (tp : Int)) = (s3 : Int) + (tq : Int) + (tp : Int) := by rw [IntKind.wrap_i64]; omega
                    replace c0 : (w10.drewN z).cell? ⟨g2, j2, none⟩ = some (.string q) := c0
                    replace c1 : (w10.drewN z).cell? ⟨g2, j2 + 1, none⟩ = some (.string p) := c1
                    obtain ⟨wz, hwz⟩ : ∃ wz, wz = w10.drewN z := ⟨_, rfl⟩
                    rw [← hwz] at c0 c1 ⊢
                    have HWZ := hide hwz
                    clear hwz
                    go_wp2_with fail
                    go_quiet (first | with_reducible exact Calls.quiet_of_same (unhide HL1 _) | with_reducible exact Calls.quiet_of_same (unhide HL2 _))
                    go_wp2
                    go_roundw
                    case rel => exact ⟨m + 1, z + nq, by omega, by go_num, by rw [unhide HSUM]; have := unhide HS3; go_num, by rw [unhide HWZ, World.drewN_drewN]⟩
                    case measure => simp [intOf]; omega
                  · obtain rfl : m = r1 := by omega
                    have hmi : ¬ (m : Int) < (m : Int) := by omega
                    have htk : R2.take m = R2 := List.take_of_length_le (by rw [unhide HRL]; exact Nat.le_refl _)
                    rw [htk]
                    obtain ⟨tot, htot⟩ : ∃ tot, tot = 3 + (R2.map Cl.sz).sum := ⟨_, rfl⟩
                    rw [← htot]
                    have HIz : Hid (Hw w (w10.drewN z) B M cs ca cc held (.slice ho j hc)) := (unhide HI10).new (belowDrewN (Below.refl _ _) _)
                    obtain ⟨z0, z1, z2⟩ := box3 (W := w10.drewN z) (unhide HXS)
                    obtain ⟨y0, y1, y2, y3⟩ := box4 (W := w10.drewN z) (unhide HXT)
                    have hkv : (key.size : Int) ≤ 140737488355328 ∧ (val.size : Int) ≤ 140737488355328 := ⟨by have := (unhide HST).1; omega, by have := (unhide HST).2; omega⟩
                    obtain ⟨hki2, hvi2⟩ := hkv
                    have HBD : Hid (320 < key.size + val.size ∨ 1992 < tot) := by rw [htot, unhide HR2, unhide HRR]; exact unhide HBAD
                    clear htot htk
                    by_cases h320 : 320 < key.size + val.size
                    · have h320i : (320 : Int) < (key.size : Int) + (val.size : Int) := by omega
                      go_wp2
                      go_roundw
                      case rel => exact ⟨k + 1, cs, ca, cc, held, ho, hc, by omega, by go_num, by rw [← unhide HHN], by rw [← unhide HHN]; exact unhide HIz⟩
                      case measure => simp [intOf]; omega
                    · have h320i : ¬ (320 : Int) < (key.size : Int) + (val.size : Int) := by omega
                      have h92 : (1992 : Int) < (tot : Int) := by have := (unhide HBD).resolve_left h320; omega
                      go_wp2
                      go_roundw
                      case rel => exact ⟨k + 1, cs, ca, cc, held, ho, hc, by omega, by go_num, by rw [← unhide HHN], by rw [← unhide HHN]; exact unhide HIz⟩
                      case measure => simp [intOf]; omega
              · have HGOOD := hide hbad
                clear hbad
                go_wp2_with fail
                refine (unhide HT).mono ?_
                rintro e W7 ⟨V, E, rfl, htr, hb7⟩
                have HPUT := (unhide HIq).lf.put_ok (key := key) (val := val) (unhide HIq).perm (by omega) (by have := unhide HGOOD; omega) (by have := unhide HGOOD; omega)
                obtain ⟨hE, G, gc, hV, hG, hnd⟩ := htr.ok (unhide HREF) hk0 (Nd.check_zero.2 HPUT.1.toOk)
                have HNEW : Hid (Lf ⟨true, (Nd.put ⟨true, cs, [], []⟩ key val).cells, [], []⟩ ∧ (R ++ [(⟨key, val⟩ : Cl)]).Perm (Nd.put ⟨true, cs, [], []⟩ key val).cells) := ⟨HPUT.1, by rw [unhide HRR]; exact HPUT.2⟩
                replace hV : V = .agg #[.bool true, .slice (some ⟨G, 0, none⟩) (Nd.put ⟨true, cs, [], []⟩ key val).cells.length gc, .slice none 0 0, .slice none 0 0] := hV
                replace hnd : NdAt W7 ⟨true, (Nd.put ⟨true, cs, [], []⟩ key val).cells, [], []⟩ ⟨some ⟨G, 0, none⟩, gc, none, 0, none, 0⟩ := hnd
                clear HPUT htr
                generalize (Nd.put ⟨true, cs, [], []⟩ key val).cells = cs2 at *
                subst hE hV
                have HND := hide hnd
                have HGW : Hid (wr.heap.size ≤ G) := hG
                have HGM : Hid (M < G) := by
                  have : M < G := by have := (unhide HMS).1; have := (unhide HMS).2; omega
                  exact this
                obtain ⟨T, hT⟩ : ∃ T, T = W7.heap.size := ⟨_, rfl⟩
                have HTT := hide hT
                have HX7 := hide ((hb7.block S (by have := (unhide HMS).2; omega)).trans (unhide HX6))
                have HST7 : Hid (S < T ∧ M < S ∧ wr.heap.size ≤ T) := ⟨by rw [hT]; have := hb7.size; have := (unhide HMS).2; omega, (unhide HMS).1, by rw [hT]; exact hb7.size⟩
                have HB7 : Hid (Below S wr W7) := hb7.mono (by have := (unhide HMS).2; omega)
                have HO7 : Hid (∀ W9, Below T W7 W9 → W9.ownsRow (S + 1) 66 2 (.slice ro rn rc) rn (flatC R)) := fun W9 hb9 => W.owns_same (unhide HOR) fun k hk => (hb9.block k (by have := (own_lt' (unhide HOR) hk).2; have := (unhide HST7).2.2; omega)).trans (hb7.block k (own_lt' (unhide HOR) hk).2)
                clear hnd hG hb7 hT HX6 HMS HT z0 z1 z2 y0 y1 y2 y3 hk0
                go_wp2_with (first
                  | ((with_reducible refine wpList_alloc_node (by rfl) (by rfl) (some 12) (by rfl) T (unhide HTT) ?_); intro W8 HX8 HW8 HS8; simp only [Act.put, List.setIfInBounds_toArray, List.set_cons_zero, List.set_cons_succ])
                  | ((with_reducible refine wpList_store_node (by rfl) (.tmp 12) (.tmp 75) (by rfl) T true (some ⟨G, 0, none⟩) cs2.length gc none 0 0 none 0 0 (by with_unfolding_all rfl) (by with_unfolding_all rfl) (unhide HX8) ?_); intro W9 HX9 HE9; simp only [Act.put]; have HB9 : Hid (Below T W7 W9) := (by rw [unhide HE9]; exact belowRow (unhide HW8) (Nat.le_refl _) _); obtain ⟨z0, z1, z2⟩ := box3 (((unhide HB9).block S (unhide HST7).1).trans (unhide HX7)))
                  | (at_builtin; refine W.wpList_put _ rfl (.tmp 82) (.tmp 88) 22 rfl (S + 1) 66 i0 (.agg #[.string ⟨#[]⟩, .string ⟨#[]⟩]) 2 32 undC (unhide HCI).1 (unhide HCI).2.1 (unhide HCI).2.2.1 (unhide HCI).2.2.2 rfl (by decide) (.slice ro rn rc) rn (flatC R) rfl ((unhide HO7 W9 (unhide HB9)).alloc _) ⟨_, 0, none⟩ 1 1 [.string key, .string val] rfl rfl (two_new _ _ _ _) (by simp [Value.oneCell']) (by simp only [maxLen]; omega) (by omega) (by have h9 := (unhide HB9).size; have := (unhide HST7).1; have := unhide HTT; rw [World.size_alloc]; omega) ?_; intro v' w10 hown' hgrow hnew; clear hnew; obtain ⟨ro2, rc2, rfl⟩ := W.owns_shape hown'; have HO2 := hide hown'; have HGR := hide hgrow; clear hown' hgrow)
                  | fail)
                have HKEEP : Hid (∀ k, k < W9.heap.size → (k < S + 1 ∨ wr.heap.size ≤ k) → w10.heap[k]? = W9.heap[k]?) := fun k hk hs => by
                  refine ((unhide HGR).block k (by rw [World.size_alloc]; omega) (fun e => ?_)).trans (Below.heap_alloc W9 _ k hk)
                  have h1 := own_lt' (unhide HOR) e.symm
                  omega
                have HB10 : Hid (Below S W9 w10) := ⟨(unhide HGR).os, (unhide HGR).tape, (unhide HGR).output, Nat.le_trans (by rw [World.size_alloc]; omega) (unhide HGR).size, fun k hk => unhide HKEEP k (by have := (unhide HB9).size; have := (unhide HST7).1; have := unhide HTT; omega) (.inl (by omega))⟩
                have HI10 : Hid (Hw w w10 B M cs ca cc held (.slice ho j hc)) := (unhide HIo).new (by
                  rw [← unhide HS]
                  exact ((unhide HBq).trans ((unhide HB7).trans (((unhide HB9).mono (Nat.le_of_lt (unhide HST7).1)).trans (unhide HB10)))))
                obtain ⟨R2, hR2⟩ : ∃ R2, R2 = R ++ [(⟨key, val⟩ : Cl)] := ⟨_, rfl⟩
                have HR2 := hide hR2
                have HO10 : Hid (w10.ownsRow (S + 1) 66 2 (.slice ro2 (rn + 1) rc2) (rn + 1) (flatC R2)) := by rw [hR2, flatC_append]; exact unhide HO2
                have HRL : Hid (rn + 1 = R2.length) := by rw [hR2, List.length_append, ← unhide HRN]; rfl
                have HSZ : Hid (∀ c ∈ R2, c.key.size ≤ 140737488355328 ∧ c.val.size ≤ 140737488355328) := fun c hc => by
                  rw [hR2] at hc
                  rcases List.mem_append.1 hc with hc | hc
                  · rw [unhide HRR] at hc
                    have := (unhide HIo).lf.ok c ((unhide HIo).perm.mem_iff.1 (List.mem_filter.1 hc).1)
                    have h2 := this.2
                    exact ⟨by omega, by omega⟩
                  · rw [List.mem_singleton.1 hc]; exact unhide HST
                have HXT : Hid (w10.heap[T]? = some (.cells #[.bool true, .slice (some ⟨G, 0, none⟩) cs2.length gc, .slice none 0 0, .slice none 0 0] 26 (0, 0))) := (unhide HKEEP T (Array.getElem?_eq_some_iff.1 (unhide HX9)).1 (.inr (unhide HST7).2.2)).trans (unhide HX9)
                have HXS : Hid (w10.heap[S]? = some (.cells #[.bool false, .string key, .string val] 64 (0, 0))) := (unhide HKEEP S (by have := (unhide HB9).size; have := (unhide HST7).1; have := unhide HTT; omega) (.inl (Nat.lt_succ_self S))).trans (((unhide HB9).block S (unhide HST7).1).trans (unhide HX7))
                have HND10 : Hid (NdAt w10 ⟨true, cs2, [], []⟩ ⟨some ⟨G, 0, none⟩, gc, none, 0, none, 0⟩) := by
                  have h9 := (unhide HND).below (by rw [← unhide HTT]; exact unhide HB9)
                  by_cases hc0 : cs2 = []
                  · subst hc0
                    exact ⟨Lies.nil _ _, Lies.nil _ _, Lies.nil _ _, h9.kid, h9.len, h9.str, h9.cap⟩
                  · refine ndAt_same h9 (unhide HKEEP G ?_ (.inr (unhide HGW)))
                    obtain ⟨g5, o5, e5, h5⟩ := h9.cells (by rw [flatC_len]; have : 0 < cs2.length := List.length_pos_iff.2 hc0; show 0 < cs2.length * 2; omega)
                    cases e5
                    have h6 : 0 < (flatC cs2).length := by rw [flatC_len]; have : 0 < cs2.length := List.length_pos_iff.2 hc0; omega
                    exact World.block_lt_of_cell? W9 ⟨G, 0 + 0, none⟩ (h5 0 _ (List.getElem?_eq_getElem h6))
                clear hR2 HO2 HGR HX8 HW8 HS8 HX9 HE9 z0 z1 z2 HKEEP
                generalize hrn1 : rn + 1 = r1 at *
                have hr1 : r1 ≤ 1993 := by omega
                have hr1i : (r1 : Int) ≤ 1993 := by omega
                clear hrn1
                go_loopw [14, 15] (fun zv mv wq => ∃ (m z : Nat), m ≤ r1 ∧ mv = .int .i64 m ∧ zv = .int .i64 ((3 + ((R2.take m).map Cl.sz).sum : Nat) : Int) ∧ wq = w10.drewN z) (fun _ mv _ => r1 - (intOf mv).toNat)
                case atStart => exact ⟨0, 0, Nat.zero_le _, rfl, rfl, rfl⟩
                case round =>
                  obtain ⟨m, z, hm, rfl, rfl, hw⟩ := hrel
                  obtain rfl := hw
                  by_cases hml : m < r1
                  · have hmi : (m : Int) < (r1 : Int) := by omega
                    have hmh : m < R2.length := by rw [← unhide HRL]; exact hml
                    obtain ⟨g2, o2, hro, c0, c1⟩ := (own_lies (unhide HO10)).cl hmh
                    subst hro
                    have hix := ixCells g2 o2 r1 rc2 m hml
                    have hsz := unhide HSZ _ (List.getElem_mem hmh)
                    have hsum : ((R2.take (m + 1)).map Cl.sz).sum = ((R2.take m).map Cl.sz).sum + (tsz R2[m].key + tsz R2[m].val) := by
                      rw [List.take_add_one, List.getElem?_eq_getElem hmh, List.map_append, List.sum_append]
                      simp [Cl.sz]
                    have hle : ((R2.take m).map Cl.sz).sum ≤ 281474976710660 * 1993 := by
                      have h1 := sum_le_mul ((R2.take m).map Cl.sz) 281474976710660 (fun x hx => by
                        obtain ⟨c, hc, rfl⟩ := List.mem_map.1 hx
                        have h1 := unhide HSZ c (List.mem_of_mem_take hc)
                        have h2 := tsz_up c.key
                        have h3 := tsz_up c.val
                        unfold Cl.sz; omega)
                      rw [List.length_map, List.length_take] at h1
                      have := Nat.mul_le_mul_left 281474976710660 (show min m R2.length ≤ 1993 by omega)
                      omega
                    have HSUM := hide hsum
                    have ht1 := tsz_up R2[m].key
                    have ht2 := tsz_up R2[m].val
                    have HL1 := hide (fun v : World => nLong R2[m].key hsz.1 v)
                    have HL2 := hide (fun v : World => nLong R2[m].val hsz.2 v)
                    generalize R2[m].key = q at *
                    generalize R2[m].val = p at *
                    generalize tsz q = tq at *
                    generalize tsz p = tp at *
                    generalize ((R2.take m).map Cl.sz).sum = sm at *
                    generalize o2 + m * 2 = j2 at *
                    clear hmh hsum
                    obtain ⟨s3, hs3⟩ : ∃ s3, s3 = 3 + sm := ⟨_, rfl⟩
                    have HS3 := hide hs3
                    have hs3i : (s3 : Int) ≤ 560979628584345383 := by omega
                    have htqi : (tq : Int) ≤ 140737488355330 := by have := hsz.1; omega
                    have htpi : (tp : Int) ≤ 140737488355330 := by have := hsz.2; omega
                    rw [← hs3]
                    clear hs3 hle hsz ht1 ht2
                    have hw1 : IntKind.i64.wrap ((s3 : Int) + (tq : Int)) = (s3 : Int) + (tq : Int) := by rw [IntKind.wrap_i64]; omega
                    have hw2 : IntKind.i64.wrap ((s3 : Int) + (tq : Int) + (tp : Int)) = (s3 : Int) + (tq : Int) + (tp : Int) := by rw [IntKind.wrap_i64]; omega
                    replace c0 : (w10.drewN z).cell? ⟨g2, j2, none⟩ = some (.string q) := c0
                    replace c1 : (w10.drewN z).cell? ⟨g2, j2 + 1, none⟩ = some (.string p) := c1
                    obtain ⟨wz, hwz⟩ : ∃ wz, wz = w10.drewN z := ⟨_, rfl⟩
                    rw [← hwz] at c0 c1 ⊢
                    have HWZ := hide hwz
                    clear hwz
                    go_wp2_with fail
                    go_quiet (first | with_reducible exact Calls.quiet_of_same (unhide HL1 _) | with_reducible exact Calls.quiet_of_same (unhide HL2 _))
                    go_wp2
                    go_roundw
                    case rel => exact ⟨m + 1, z + nq, by omega, by go_num, by rw [unhide HSUM]; have := unhide HS3; go_num, by rw [unhide HWZ, World.drewN_drewN]⟩
                    case measure => simp [intOf]; omega
                  · obtain rfl : m = r1 := by omega
                    have hmi : ¬ (m : Int) < (m : Int) := by omega
                    have htk : R2.take m = R2 := List.take_of_length_le (by rw [unhide HRL]; exact Nat.le_refl _)
                    rw [htk]
                    obtain ⟨tot, htot⟩ : ∃ tot, tot = 3 + (R2.map Cl.sz).sum := ⟨_, rfl⟩
                    rw [← htot]
                    have HIz : Hid (Hw w (w10.drewN z) B M cs ca cc held (.slice ho j hc)) := (unhide HI10).new (belowDrewN (Below.refl _ _) _)
                    obtain ⟨z0, z1, z2⟩ := box3 (W := w10.drewN z) (unhide HXS)
                    obtain ⟨y0, y1, y2, y3⟩ := box4 (W := w10.drewN z) (unhide HXT)
                    have hkv : (key.size : Int) ≤ 140737488355328 ∧ (val.size : Int) ≤ 140737488355328 := ⟨by have := (unhide HST).1; omega, by have := (unhide HST).2; omega⟩
                    obtain ⟨hki2, hvi2⟩ := hkv
                    have HGD : Hid (¬ (320 < key.size + val.size ∨ 1992 < tot)) := by rw [htot, unhide HR2, unhide HRR]; exact unhide HGOOD
                    clear htot htk
                    have h320i : ¬ (320 : Int) < (key.size : Int) + (val.size : Int) := by have := unhide HGD; omega
                    have h92 : ¬ (1992 : Int) < (tot : Int) := by have := unhide HGD; omega
                    have HNDz := hide ((unhide HND10).below (belowDrewN (Below.refl _ w10) z))
                    have HOz : Hid ((w10.drewN z).ownsRow (M + 1) 66 2 (.slice ro2 m rc2) m (flatC R2)) := own_base (W.owns_same (unhide HO10) fun _ _ => rfl) (by have := (unhide HST7).2.1; omega)
                    go_wp2_with (first
                      | ((with_reducible refine wpList_store_node (by rfl) (.tmp 3) (.tmp 127) (by rfl) M true (some ⟨G, 0, none⟩) cs2.length gc none 0 0 none 0 0 (by with_unfolding_all rfl) (by with_unfolding_all rfl) (unhide HIz).box ?_); intro W12 HX12 HE12; simp only [Act.put])
                      | fail)
                    have HI12 : Hid (Hw w W12 B M cs2 (some ⟨G, 0, none⟩) gc R2 (.slice ro2 m rc2)) := by
                      rw [unhide HE12]
                      exact (unhide HIz).turn (unhide HNDz) (unhide HGM) (unhide HNEW).1 (by rw [unhide HR2]; exact (unhide HNEW).2) (by rw [← unhide HRL]; exact unhide HOz)
                    clear HX12 HE12
                    go_wp2
                    go_roundw
                    case rel => exact ⟨k + 1, cs2, some ⟨G, 0, none⟩, gc, R2, ro2, rc2, by omega, by go_num, by rw [← unhide HRL], by rw [← unhide HRL]; exact unhide HI12⟩
                    case measure => simp [intOf]; omega
          · have HT := hide (nTake ⟨true, cs, [], []⟩ ⟨ca, cc, none, 0, none, 0⟩ key wr (unhide HIq).nd)
            replace HT : Hid (Calls Try.prog 40 #[.agg #[.bool true, .slice ca cs.length cc, .slice none 0 0, .slice none 0 0], .string key] wr fun e u' => ∃ V b, e = .returned (.tuple #[V, .bool b]) ∧ TakeR wr u' ⟨true, cs, [], []⟩ key V b ∧ Below wr.heap.size wr u') := unhide HT
            cases tb
            · have hnf : Nd.found ⟨true, cs, [], []⟩ key = false := (unhide HTF).symm
              have HNF := hide hnf
              clear hnf HTF
              go_wp2_with fail
              refine (unhide HT).mono ?_
              rintro e W7 ⟨V, b, rfl, htr, hb7⟩
              obtain ⟨rfl, rfl⟩ : b = false ∧ V = zeroV := by
                rcases htr with ⟨_, h1, h2⟩ | ⟨⟨_, h1⟩, _⟩
                · exact ⟨h1, h2⟩
                · rw [unhide HNF] at h1; cases h1
              have HI7 : Hid (Hw w W7 B M cs ca cc held (.slice ho j hc)) := (unhide HIq).new hb7
              obtain ⟨T, hT⟩ : ∃ T, T = W7.heap.size := ⟨_, rfl⟩
              have HTT := hide hT
              clear htr hb7 hT HIq HX6 HOR HMS HT z0 z1 z2 y0 y1 y2 y3
              unfold zeroV
              go_wp2_with (first
                | ((with_reducible refine wpList_alloc_node (by rfl) (by rfl) (some 10) (by rfl) T (unhide HTT) ?_); intro W8 HX8 HW8 HS8; simp only [Act.put, List.setIfInBounds_toArray, List.set_cons_zero, List.set_cons_succ])
                | ((with_reducible refine wpList_store_node (by rfl) (.tmp 10) (.tmp 60) (by rfl) T false none 0 0 none 0 0 none 0 0 (by with_unfolding_all rfl) (by with_unfolding_all rfl) (unhide HX8) ?_); intro W9 HX9 HE9; simp only [Act.put])
                | fail)
              have HI9 : Hid (Hw w W9 B M cs ca cc held (.slice ho j hc)) := (unhide HI7).new (by rw [← unhide HTT, unhide HE9]; exact belowRow (unhide HW8) (Nat.le_refl _) _)
              clear HX8 HW8 HS8 HX9 HE9 HI7
              go_wp2
              go_roundw
              case rel => exact ⟨k + 1, cs, ca, cc, held, ho, hc, by omega, by go_num, by rw [← unhide HHN], by rw [← unhide HHN]; exact unhide HI9⟩
              case measure => simp [intOf]; omega
            · have HF : Hid (Nd.found ⟨true, cs, [], []⟩ key = true) := (unhide HTF).symm
              clear HTF
              go_wp2_with fail
              refine (unhide HT).mono ?_
              rintro e W7 ⟨V, b, rfl, htr, hb7⟩
              obtain ⟨hbt, G, gc, hV, hG, hnd⟩ : b = true ∧ ∃ G c, V = (Nv.mk (some ⟨G, 0, none⟩) c none 0 none 0).v (Nd.take ⟨true, cs, [], []⟩ key) ∧ wr.heap.size ≤ G ∧ NdAt W7 (Nd.take ⟨true, cs, [], []⟩ key) ⟨some ⟨G, 0, none⟩, c, none, 0, none, 0⟩ := by
                rcases htr with ⟨h1, _⟩ | ⟨_, h1, h2⟩
                · exact absurd ⟨unhide HREF, unhide HF⟩ h1
                · exact ⟨h1, h2⟩
              have HNEW : Hid (Lf ⟨true, (Nd.take ⟨true, cs, [], []⟩ key).cells, [], []⟩ ∧ R.Perm (Nd.take ⟨true, cs, [], []⟩ key).cells) := by
                refine ⟨(unhide HIq).lf.take (unhide HF), ?_⟩
                rw [(unhide HIq).lf.take_cells (unhide HF), unhide HRR]
                exact off_perm (unhide HIq).perm key
              replace hV : V = .agg #[.bool true, .slice (some ⟨G, 0, none⟩) (Nd.take ⟨true, cs, [], []⟩ key).cells.length gc, .slice none 0 0, .slice none 0 0] := hV
              replace hnd : NdAt W7 ⟨true, (Nd.take ⟨true, cs, [], []⟩ key).cells, [], []⟩ ⟨some ⟨G, 0, none⟩, gc, none, 0, none, 0⟩ := hnd
              generalize (Nd.take ⟨true, cs, [], []⟩ key).cells = cs2 at *
              subst hbt hV
              have HND := hide hnd
              have HGM : Hid (M < G) := by
                have : M < G := by have := (unhide HMS).1; have := (unhide HMS).2; omega
                exact this
              have HI7 : Hid (Hw w W7 B M cs ca cc held (.slice ho j hc)) := (unhide HIq).new hb7
              have HO7 : Hid (W7.ownsRow (M + 1) 66 2 (.slice ro rn rc) rn (flatC R)) := own_base (W.owns_same (unhide HOR) fun k hk => hb7.block k (own_lt' (unhide HOR) hk).2) (by have := (unhide HMS).1; omega)
              obtain ⟨T, hT⟩ : ∃ T, T = W7.heap.size := ⟨_, rfl⟩
              have HTT := hide hT
              clear htr hb7 hT hnd hG HIq HX6 HOR HMS HT z0 z1 z2 y0 y1 y2 y3
              go_wp2_with (first
                | ((with_reducible refine wpList_alloc_node (by rfl) (by rfl) (some 10) (by rfl) T (unhide HTT) ?_); intro W8 HX8 HW8 HS8; simp only [Act.put, List.setIfInBounds_toArray, List.set_cons_zero, List.set_cons_succ])
                | ((with_reducible refine wpList_store_node (by rfl) (.tmp 10) (.tmp 60) (by rfl) T true (some ⟨G, 0, none⟩) cs2.length gc none 0 0 none 0 0 (by with_unfolding_all rfl) (by with_unfolding_all rfl) (unhide HX8) ?_); intro W9 HX9 HE9; simp only [Act.put]; obtain ⟨y0, y1, y2, y3⟩ := box4 (unhide HX9); have HB9 : Hid (Below W7.heap.size W7 W9) := (by rw [← unhide HTT, unhide HE9]; exact belowRow (unhide HW8) (Nat.le_refl _) _); have HI9 := hide ((unhide HI7).new (unhide HB9)); have HND9 := hide ((unhide HND).below (unhide HB9)); have HO9 : Hid (W9.ownsRow (M + 1) 66 2 (.slice ro rn rc) rn (flatC R)) := W.owns_same (unhide HO7) fun k hk => (unhide HB9).block k (own_lt' (unhide HO7) hk).2)
                | ((with_reducible refine wpList_store_node (by rfl) (.tmp 3) (.tmp 66) (by rfl) M true (some ⟨G, 0, none⟩) cs2.length gc none 0 0 none 0 0 (by with_unfolding_all rfl) (by with_unfolding_all rfl) (unhide HI9).box ?_); intro W10 HX10 HE10; simp only [Act.put])
                | fail)
              have HI10 : Hid (Hw w W10 B M cs2 (some ⟨G, 0, none⟩) gc R (.slice ro rn rc)) := by
                rw [unhide HE10]
                exact (unhide HI9).turn (unhide HND9) (unhide HGM) (unhide HNEW).1 (unhide HNEW).2 (by rw [← unhide HRN]; exact unhide HO9)
              clear HX8 HW8 HS8 HX9 HE9 HX10 HE10 HI9 HI7 HO7 HO9 HND HND9 HB9 y0 y1 y2 y3
              go_wp2
              go_roundw
              case rel => exact ⟨k + 1, cs2, some ⟨G, 0, none⟩, gc, R, ro, rc, by omega, by go_num, by rw [← unhide HRN], by rw [← unhide HRN]; exact unhide HI10⟩
              case measure => simp [intOf]; omega
    · have hkf : ¬ (k : Int) < (ln : Int) := by omega
      have hcl : cs.length = hn := by rw [unhide HHN]; exact (unhide HI).perm.length_eq.symm
      have HCL := hide hcl
      have HCK : Hid (Calls Try.prog 18 #[.agg #[.bool true, .slice ca hn cc, .slice none 0 0, .slice none 0 0]] wr fun e u' => e = .returned (.int .i64 0) ∧ Below wr.heap.size wr u') := by
        have h1 := nCheck ⟨true, cs, [], []⟩ ⟨ca, cc, none, 0, none, 0⟩ wr (unhide HI).nd
        rw [Nd.check_zero.2 (unhide HI).lf.toOk] at h1
        rw [← hcl]
        exact h1
      obtain ⟨y0, y1, y2, y3⟩ := box4 (unhide HI).box
      rw [hcl] at y1
      clear hcl
      go_wp2_with fail
      refine (unhide HCK).mono ?_
      rintro e W6 ⟨rfl, hb6⟩
      have HI6 := hide ((unhide HI).new hb6)
      clear hb6 HI y0 y1 y2 y3 HCK
      go_wp2_with fail
      go_loopw [16] (fun iv wq => ∃ m : Nat, m ≤ hn ∧ iv = .int .i64 m ∧ Hid (Hw w wq B M cs ca cc held (.slice ho hn hc))) (fun iv _ => hn - (intOf iv).toNat)
      case atStart => exact ⟨0, Nat.zero_le _, rfl, unhide HI6⟩
      case round =>
        clear HI6
        obtain ⟨m, hm, rfl, HJ⟩ := hrel
        by_cases hml : m < hn
        · have hmi : (m : Int) < (hn : Int) := by omega
          have hmh : m < held.length := by rw [← unhide HHN]; exact hml
          have hown : wr.ownsRow (M + 1) 66 2 (.slice ho hn hc) hn (flatC held) := by have := (unhide HJ).own; rw [← unhide HHN] at this; exact this
          obtain ⟨g2, o2, hho, c0, c1⟩ := (own_lies hown).cl hmh
          subst hho
          have hix := ixCells g2 o2 hn hc m hml
          have hmem : held[m] ∈ cs := (unhide HJ).perm.mem_iff.1 (List.getElem_mem hmh)
          obtain ⟨hfd, hpl, hpc, hpr⟩ := (unhide HJ).lf.find hmem
          obtain ⟨g3, o3, hca, d0, d1⟩ := (unhide HJ).nd.cells.cl hpl
          have hca : ca = some ⟨g3, o3, none⟩ := hca
          subst hca
          have HPREV : Hid (0 < plc cs held[m].key → ∃ q0 : ByteArray, wr.cell? ⟨g3, o3 + (plc cs held[m].key - 1) * 2, none⟩ = some (.string q0) ∧ Op.bytesLess q0.toList held[m].key.toList = true) := fun h0 => by
            have h1 : plc cs held[m].key - 1 < cs.length := by have : plc cs held[m].key < cs.length := hpl; omega
            obtain ⟨g4, o4, e4, h4, _⟩ := (unhide HJ).nd.cells.cl (i := plc cs held[m].key - 1) h1
            cases e4
            exact ⟨_, h4, hpr h0⟩
          have HFI : Hid (∀ v, Below wr.heap.size wr v → Calls Try.prog 30 #[.agg #[.bool true, .slice (some ⟨g3, o3, none⟩) hn cc, .slice none 0 0, .slice none 0 0], .string held[m].key] v fun e u' => e = .returned (.tuple #[.int .i64 (plc cs held[m].key : Int), .bool true]) ∧ Below v.heap.size v u') := fun v hv => by
            have h1 := nFind ⟨true, cs, [], []⟩ ⟨some ⟨g3, o3, none⟩, cc, none, 0, none, 0⟩ held[m].key v ((unhide HJ).nd.below hv)
            rw [← unhide HCL]
            refine h1.mono ?_
            rintro e u' ⟨ha, _, hb⟩
            have h2 := ha (Nd.refused_zero.2 ⟨(unhide HJ).lf.toOk, rfl⟩)
            rw [hfd] at h2
            exact ⟨h2, hb⟩
          have hPn : plc cs held[m].key < hn := by rw [← unhide HCL]; exact hpl
          replace d0 : wr.cell? ⟨g3, o3 + plc cs held[m].key * 2, none⟩ = some (.string held[m].key) := by have := d0; rw [hpc] at this; exact this
          replace d1 : wr.cell? ⟨g3, o3 + plc cs held[m].key * 2 + 1, none⟩ = some (.string held[m].val) := by have := d1; rw [hpc] at this; exact this
          obtain ⟨y0, y1, y2, y3⟩ := box4 (unhide HJ).box
          rw [unhide HCL] at y1
          clear hpc hpr hfd hmem hpl hown
          generalize plc cs held[m].key = P at *
          generalize held[m] = c at *
          obtain ⟨q, p⟩ := c
          replace c0 : wr.cell? ⟨g2, o2 + m * 2, none⟩ = some (.string q) := c0
          replace c1 : wr.cell? ⟨g2, o2 + m * 2 + 1, none⟩ = some (.string p) := c1
          replace d0 : wr.cell? ⟨g3, o3 + P * 2, none⟩ = some (.string q) := d0
          replace d1 : wr.cell? ⟨g3, o3 + P * 2 + 1, none⟩ = some (.string p) := d1
          replace HFI : Hid (∀ v, Below wr.heap.size wr v → Calls Try.prog 30 #[.agg #[.bool true, .slice (some ⟨g3, o3, none⟩) hn cc, .slice none 0 0, .slice none 0 0], .string q] v fun e u' => e = .returned (.tuple #[.int .i64 (P : Int), .bool true]) ∧ Below v.heap.size v u') := unhide HFI
          replace HPREV : Hid (0 < P → ∃ q0 : ByteArray, wr.cell? ⟨g3, o3 + (P - 1) * 2, none⟩ = some (.string q0) ∧ Op.bytesLess q0.toList q.toList = true) := unhide HPREV
          have hPi : (P : Int) < (hn : Int) := by omega
          clear hmh
          generalize o2 + m * 2 = j2 at *
          have HALL : Hid (∀ u, Below wr.heap.size wr u → u.cell? ⟨M, 0, none⟩ = some (.bool true) ∧ u.cell? ⟨M, 1, none⟩ = some (.slice (some ⟨g3, o3, none⟩) hn cc) ∧ u.cell? ⟨M, 2, none⟩ = some (.slice none 0 0) ∧ u.cell? ⟨M, 3, none⟩ = some (.slice none 0 0) ∧ u.cell? ⟨g2, j2, none⟩ = some (.string q)) := fun u hu => ⟨cell_keep hu rfl y0, cell_keep hu rfl y1, cell_keep hu rfl y2, cell_keep hu rfl y3, cell_keep hu rfl c0⟩
          have HCD := hide (And.intro c1 (And.intro d0 d1))
          go_wp2_with fail
          go_region_held3 (fun u => u.cell? ⟨M, 0, none⟩ = some (.bool true) ∧ u.cell? ⟨M, 1, none⟩ = some (.slice (some ⟨g3, o3, none⟩) hn cc) ∧ u.cell? ⟨M, 2, none⟩ = some (.slice none 0 0) ∧ u.cell? ⟨M, 3, none⟩ = some (.slice none 0 0) ∧ u.cell? ⟨g2, j2, none⟩ = some (.string q)) (first | exact ⟨y0, y1, y2, y3, c0⟩ | exact hkk | (go_keep; done)) (first | (go_at_call 30; refine (unhide HFI _ (belowDrewN (Below.refl _ _) 1)).mono ?_; rintro e W8 ⟨rfl, hb8⟩; have HB8 : Hid (Below wr.heap.size wr W8) := (belowDrewN (Below.refl _ wr) 1).trans hb8; have hkk := unhide HALL W8 (unhide HB8); clear hb8))
          have HJ8 := hide ((unhide HJ).new (unhide HB8))
          obtain ⟨u0, u1x, u2x, u3x, u4x⟩ := hkk
          have v1 := cell_keep (unhide HB8) rfl (unhide HCD).1
          have v2 := cell_keep (unhide HB8) rfl (unhide HCD).2.1
          have v3 := cell_keep (unhide HB8) rfl (unhide HCD).2.2
          have hne : ∀ u : World, (binOp .neq 66 (.agg #[.string q, .string p]) (.agg #[.string q, .string p])).run Try.prog u = .ok (.bool false) u := fun u => by
            have := neqCl q p q p u
            simpa using this
          have hix2 := ixCells g3 o3 hn cc P hPn
          have hd1 : decide ((P : Int) < 0) = false := decide_eq_false (by omega)
          have hd2 : decide ((hn : Int) ≤ (P : Int)) = false := decide_eq_false (by omega)
          have hP0 : ¬ (P : Int) < 0 := by omega
          have hPh : ¬ (hn : Int) ≤ (P : Int) := by omega
          rcases Nat.eq_zero_or_pos P with hz | hpos
          · subst hz
            clear HFI HALL HCD HB8 HJ c0 c1 d0 d1 y0 y1 y2 y3 HPREV
            generalize o3 + 0 * 2 = j3 at *
            replace hix2 : ∀ W : World, (Instr.indexAt 22 (.slice (some ⟨g3, o3, none⟩) hn cc) (.int .i64 0)).run Try.prog W = .ok (.pointer (some ⟨g3, j3, none⟩)) W := hix2
            have hh0 : ¬ hn = 0 := by omega
            have hd2a : decide ((hn : Int) ≤ 0) = false := decide_eq_false (by omega)
            have hd2b : decide (hn = 0) = false := decide_eq_false hh0
            have hd2c : decide (hn ≤ 0) = false := decide_eq_false (by omega)
            clear hd1 hd2 hP0 hPh hPi hPn
            go_wp2_with fail
            go_quiet (fail)
            go_wp2
            go_roundw
            case rel => exact ⟨m + 1, by omega, by go_num, (unhide HJ8).new (belowDrewN (Below.refl _ _) _)⟩
            case measure => simp [intOf]; omega
          · obtain ⟨q0, w0, hlq⟩ := unhide HPREV hpos
            have e0 := cell_keep (unhide HB8) rfl w0
            obtain ⟨P', rfl⟩ : ∃ P', P = P' + 1 := ⟨P - 1, by omega⟩
            rw [Nat.add_sub_cancel] at e0
            have hix3 := ixCells g3 o3 hn cc P' (by omega)
            clear HFI HALL HCD HB8 HJ c0 c1 d0 d1 y0 y1 y2 y3 HPREV w0
            generalize o3 + (P' + 1) * 2 = j3 at *
            generalize o3 + P' * 2 = j4 at *
            replace hix2 : ∀ W : World, (Instr.indexAt 22 (.slice (some ⟨g3, o3, none⟩) hn cc) (.int .i64 ((P' : Int) + 1))).run Try.prog W = .ok (.pointer (some ⟨g3, j3, none⟩)) W := hix2
            replace hd1 : decide ((P' : Int) + 1 < 0) = false := decide_eq_false (by omega)
            replace hd2 : decide ((hn : Int) ≤ (P' : Int) + 1) = false := decide_eq_false (by omega)
            have hd3 : decide ((0 : Int) < (P' : Int) + 1) = true := decide_eq_true (by omega)
            have hP3 : (0 : Int) < (P' : Int) + 1 := by omega
            have hw1 : wrap64 ((P' : Int) + 1 - 1) = (P' : Int) := by rw [Int.add_sub_cancel]; go_unwrap
            have hw2 : IntKind.i64.wrap ((P' : Int) + 1 - 1) = (P' : Int) := by rw [Int.add_sub_cancel, IntKind.wrap_i64]; omega
            have hw3 : IntKind.i64.wrap (P' : Int) = (P' : Int) := by rw [IntKind.wrap_i64]; omega
            go_wp2_with fail
            go_quiet (fail)
            go_wp2
            go_roundw
            case rel => exact ⟨m + 1, by omega, by go_num, (unhide HJ8).new (belowDrewN (Below.refl _ _) _)⟩
            case measure => simp [intOf]; omega
        · obtain rfl : m = hn := by omega
          have hmi : ¬ (m : Int) < (m : Int) := by omega
          go_wp2
          go_ret
          exact ⟨rfl, (unhide HJ).bel⟩
end Go.Proofs.Ytjkcnjjjfbpjiaa
