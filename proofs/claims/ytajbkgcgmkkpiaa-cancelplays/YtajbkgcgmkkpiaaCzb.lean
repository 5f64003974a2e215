/- CancelPlays: the walk. Written by mkczb.py. -/
import Derived.Test.YtajbkgcgmkkpiaaCza
namespace Go.Proofs.Ytajbkgcgmkkpiaa.C
open Go.RowKit Go.Lib
theorem DM.own0 {W wr : World} {db n m na ne ca cb : Nat} {G G' : Geo} {Z : Nat → Dy} {E : List (Int × Int)} {ao bo : Option Addr} (h : DM W wr db G' Z n (allL G m) na E ne ao bo ca cb) : ∃ ga, ao = some ⟨ga, 0, none⟩ ∧ wr.cell? ⟨ga, 0, none⟩ = some (.pointer none) := by
  obtain ⟨ga, e, hca, _⟩ := own_get h.al (i := 0) (by rw [allL_len]; omega)
  have hc0 := hca 0 _ rfl
  rw [allL_get] at hc0
  refine ⟨ga, e, ?_⟩
  rw [Nat.zero_mul] at hc0
  exact hc0
/-- behind all steps: the last questions -/
theorem last_why {up : Nat → Nat} {n : Nat} (h1 : up (n + 1) = n + 1) (hu : ∀ j, j ≤ n + 1 → up j ≤ j) : abN up (n + 1) (n + 2) = true := by
  rw [abN_step hu, h1]
  have : abN up (n + 1) (n + 1) = true := anc_self
  rw [this]; simp
set_option maxRecDepth 100000 in
set_option maxHeartbeats 4000000 in
theorem plays_walk (l : List Sp) (so : Option Addr) (cs : Nat) (W : World) (hl : At0 SR W l so cs) (hb : l.length < 5864062014806) :
    Calls Try.prog 3 #[.slice so l.length cs] W fun e w' => e = .returned (.bool true) ∧ Below W.heap.size W w' := by
  have HL := hide hl
  obtain ⟨L, hL⟩ : ∃ L, L = l.length := ⟨_, rfl⟩
  rw [← hL] at hb ⊢
  have HLL := hide hL
  have HB := hide hb
  have HOP := hide (kOpens W)
  obtain ⟨db, hdb⟩ : ∃ db, db = W.heap.size + 1 := ⟨_, rfl⟩
  rw [← hdb] at HOP
  clear hl hL hb hdb
  go_enter Try.func3, Try.ntmps3
  go_wp2_with (first
    | (go_at_call 10; (with_reducible refine (unhide HOP).mono ?_); rintro e X ⟨rfl, hd⟩; have HD := hide hd; clear hd HOP)
    | fail)
  go_loopw [4] (fun s4 wr => ∃ c n : Nat, c ≤ L ∧ s4 = .int .i64 (c : Int) ∧ Hid (n ≤ c) ∧ Hid (DH W wr db n)) (fun s4 _ => L - (intOf s4).toNat)
  case atStart => exact ⟨0, 0, Nat.zero_le _, rfl, hide (Nat.le_refl _), HD⟩
  case round =>
    clear HD
    obtain ⟨c, n, hcL, rfl, HNC, HD⟩ := hrel
    by_cases hlt : c < L
    · have hlti : (c : Int) < (L : Int) := by omega
      obtain ⟨G, Z, ao, bo, ca, cb, na, hdm⟩ := unhide HD
      have hsat := (unhide HL).below hdm.bl
      have hcl : c < l.length := by rw [← unhide HLL]; exact hlt
      obtain ⟨g, o, rfl, hx0, hx1, hx2⟩ := sp_cells hsat hcl
      have hsix := fun w => SR.ix (P := Try.prog) g o L cs c hlt w
      generalize l[c] = sp at hx0 hx1 hx2
      obtain ⟨kd, on, why⟩ := sp
      simp only at hx0 hx1 hx2
      have HP := hide (kPlays (unhide HD) (by have := unhide HNC; have := unhide HB; omega) kd on why)
      have hwc : wrap64 ((c : Int) + 1) = ((c + 1 : Nat) : Int) := by have := unhide HB; simp only [wrap64]; omega
      have HLT := hide hlt
      clear hdm hsat hcl hlt hcL
      go_wp2_with (first
        | (go_at_call 11; (with_reducible refine (unhide HP).mono ?_); rintro e X2 ⟨rfl, n2, hn2, hd2⟩; have HN2 := hide hn2; have HD2 := hide hd2; clear hn2 hd2 HP)
        | fail)
      go_roundw
      case rel => exact ⟨c + 1, n2, by have := unhide HLT; omega, by rw [hwc], hide (by have := unhide HN2; have := unhide HNC; omega), HD2⟩
      case measure => have := unhide HLT; rw [hwc]; simp only [intOf, Int.toNat_natCast]; omega
    · obtain rfl : c = L := by omega
      have HNL := hide (show n < 5864062014806 by have := unhide HNC; have := unhide HB; omega)
      have hnl : ¬ (c : Int) < (c : Int) := by omega
      clear hcL hlt HNC
      obtain ⟨G, Z0, ao, bo, ca, cb, na, hdm⟩ := unhide HD
      have hna : na = n + 1 := by rw [hdm.ha, allL_len]
      have HNA := hide hna
      have HDM := hide hdm
      clear hdm HD hna
      go_wp2
      go_loopw [5] (fun s5 wv => ∃ (i : Nat) (Z : Nat → Dy), i ≤ na ∧ s5 = .int .i64 (i : Int) ∧ Hid (DM W wv db G Z n (allL G n) na (refF G.up (yZ Z) n) n ao bo ca cb)) (fun s5 _ => na - (intOf s5).toNat)
      case atStart => exact ⟨0, Z0, Nat.zero_le _, rfl, HDM⟩
      case round =>
        clear HDM
        obtain ⟨i, Z, hin, rfl, HDM⟩ := hrel
        have hd0 := (S.box2 (unhide HDM).dk).1
        by_cases hlt : i < na
        · have hlti : (i : Int) < (na : Int) := by omega
          have HP4 := hide (kPlay4 (unhide HDM) (by have := unhide HNL; omega) (i : Int) 0)
          have hwi : wrap64 ((i : Int) + 1) = ((i + 1 : Nat) : Int) := by have := unhide HNL; have := unhide HNA; simp only [wrap64]; omega
          have HLT := hide hlt
          clear hlt hin
          go_wp2_with (first
            | (go_at_call 11; (with_reducible refine (unhide HP4).mono ?_); rintro e X2 ⟨rfl, Z2, hd2⟩; have HP5 := hide (kPlay5 hd2 (by have := unhide HNL; omega) (i : Int) 0); clear hd2 HP4)
            | (go_at_call 11; (with_reducible refine (unhide HP5).mono ?_); rintro e X3 ⟨rfl, Z3, hd3⟩; have HD3 := hide hd3; clear hd3 HP5)
            | fail)
          go_roundw
          case rel => exact ⟨i + 1, Z3, by have := unhide HLT; omega, by rw [hwi], HD3⟩
          case measure => have := unhide HLT; rw [hwi]; simp only [intOf, Int.toNat_natCast]; omega
        · obtain rfl : i = na := by omega
          have hnl2 : ¬ (i : Int) < (i : Int) := by omega
          have HNEW := hide (kNewN (unhide HDM).fo (unhide HDM).wf (unhide HDM).bl.size)
          have hn0 : (7 : Int) ≠ 0 := by decide
          clear hlt hin
          go_wp2_with (first
            | (go_at_call 12; (with_reducible refine (unhide HNEW).mono ?_); rintro e X1 ⟨tb, kb, lb, ch, Z1, rfl, hmo⟩; have hd1 := (unhide HDM).more hmo; have HUN := hide (kUnderN hd1.fo hd1.wf hd1.bl.size (by have := unhide HNL; omega) (k := n + 1) (Nat.le_refl _)); have HT1 := hide (show tkP (G.ext n tb kb lb ch 0) (n + 1) = .pointer (some ⟨tb, 0, none⟩) by show Value.pointer (some ⟨(G.ext n tb kb lb ch 0).tb n, 0, none⟩) = _; rw [ext_self.1]); rw [unhide HT1] at HUN; have HZ1 := hide (show (Z1 n).why = 0 from hmo.new); have HD1 := hide hd1; clear hmo hd1 HNEW)
            | (go_at_call 13; (with_reducible refine (unhide HUN).mono ?_); rintro e X2 ⟨tb2, kb2, lb2, ch2, Z2, rfl, hmo⟩; have hd2 := (unhide HD1).more hmo; have HT2 := hide (show tkP ((G.ext n tb kb lb ch 0).ext (n + 1) tb2 kb2 lb2 ch2 (n + 1)) (n + 1) = .pointer (some ⟨tb, 0, none⟩) by show Value.pointer (some ⟨((G.ext n tb kb lb ch 0).ext (n + 1) tb2 kb2 lb2 ch2 (n + 1)).tb n, 0, none⟩) = _; rw [ext_tb (by omega)]; exact unhide HT1); have HT3 := hide (show tkP ((G.ext n tb kb lb ch 0).ext (n + 1) tb2 kb2 lb2 ch2 (n + 1)) (n + 2) = .pointer (some ⟨tb2, 0, none⟩) by show Value.pointer (some ⟨((G.ext n tb kb lb ch 0).ext (n + 1) tb2 kb2 lb2 ch2 (n + 1)).tb (n + 1), 0, none⟩) = _; rw [ext_self.1]); have HZ2 := hide (show (Z2 n).why = 0 by rw [hmo.old n (by omega)]; exact unhide HZ1); have HY2 := hide (show (Z2 (n + 1)).why = 0 by rw [hmo.new]; exact unhide HZ1); have HC := hide (kCancelN hd2.fo hd2.wf (by have := unhide HNL; omega) (k := n + 1) (by omega) 7); rw [unhide HT2, decide_eq_true (show n + 1 ≠ 0 ∧ whyN Z2 (n + 1) = 0 from ⟨by omega, unhide HZ2⟩)] at HC; have HD2 := hide hd2; clear hmo hd2 HUN)
            | (go_at_call 14; (with_reducible refine (unhide HC).mono ?_); rintro e X3 ⟨Z3, rfl, hcu⟩; have hd3 := (unhide HD2).cut hcu; have hz3 : whyN Z3 (n + 2) = 7 := (by show (Z3 (n + 1)).why = 7; rw [hcu.all (n + 1) (by omega), if_pos ⟨by omega, unhide HZ2, unhide HY2, last_why ext_self.2.2.2.2 (fun j hj => hd3.wf.uple j (by omega))⟩]; rfl); have HWY := hide (kWhyN hd3.fo (k := n + 2) (Nat.le_refl _)); have HOF := hide (kOffN hd3.fo (k := n + 2) (Nat.le_refl _)); rw [hz3, unhide HT3] at HWY HOF; have HNIL := hide (kOffNil X3); have hd0' := (S.box2 hd3.dk).1; have HBL := hide hd3.bl; have htk := hd3.own0; obtain ⟨ga, rfl, hc0⟩ := htk; have hi0 : 0 < i := (by have := unhide HNA; omega); clear hcu hd3 hz3 HC)
            | (go_at_call 15; (with_reducible refine (unhide HWY).mono ?_); rintro e w' ⟨rfl, hw⟩; obtain rfl := hw.symm; clear HWY)
            | (go_at_call 16; (with_reducible refine (unhide HOF).mono ?_); rintro e w' ⟨rfl, hw⟩; obtain rfl := hw.symm; clear HOF)
            | (go_at_call 16; (with_reducible refine (unhide HNIL).mono ?_); rintro e w' ⟨rfl, hw⟩; obtain rfl := hw.symm; clear HNIL)
            | fail)
          go_ret
          exact ⟨by simp, unhide HBL⟩
end Go.Proofs.Ytajbkgcgmkkpiaa.C
