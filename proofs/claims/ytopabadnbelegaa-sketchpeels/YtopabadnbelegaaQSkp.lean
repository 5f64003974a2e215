/- Sketches: the law's sameItems; one item peeled; works. -/
import Derived.Test.YtopabadnbelegaaQSko
namespace Go.Proofs.Ytopabadnbelegaa.K
open Go.RowKit Go.Lib
open Go.Proofs.Ytopabadnbelegaa.S (Rec En plN plN_lt textB)
theorem at_ixW {w : World} {l : List BV} {ao : Option Addr} {c : Nat} (h : RW.At w l ao c) (i : Nat) (hi : i < l.length) : ∃ g o, ao = some ⟨g, o, none⟩ ∧
    (∀ W : World, (Instr.indexAt 28 (.slice ao l.length c) (.int .i64 (i : Int))).run Try.prog W = .ok (.pointer (some ⟨g, o + i, none⟩)) W) ∧
    w.cell? ⟨g, o + i, none⟩ = some (.int .u64 l[i].toNat) := by
  obtain ⟨g, o, rfl, h1⟩ := h.get hi
  refine ⟨g, o, rfl, fun W => ?_, ?_⟩
  · have h := RW.ix g o l.length c i hi W
    rw [show RW.n = 1 from rfl, Nat.mul_one] at h
    exact h
  · have h := h1 0 _ rfl
    rw [show RW.n = 1 from rfl, Nat.mul_one, Nat.add_zero] at h
    exact h
set_option maxHeartbeats 2000000 in
theorem lSameI (l m : List BV) (ao bo : Option Addr) (c d : Nat) (u : World) (h : RW.At u l ao c) (k : RW.At u m bo d) : Calls Try.prog 23 #[.slice ao l.length c, .slice bo m.length d] u fun e u' => e = .returned (.bool (decide (l = m))) ∧ ∃ z, u' = u.drewN z := by
  obtain ⟨r, hr⟩ : ∃ r, r = decide (l = m) := ⟨_, rfl⟩
  rw [← hr]
  have HR := hide hr
  clear hr
  obtain ⟨n, hn⟩ : ∃ n, n = l.length := ⟨_, rfl⟩
  obtain ⟨n2, hn2⟩ : ∃ n2, n2 = m.length := ⟨_, rfl⟩
  rw [← hn, ← hn2]
  by_cases he : n = n2
  · subst he
    have HN := hide hn
    have HN2 := hide hn2
    have HH := hide h
    have HK := hide k
    have hnm : (n : Int) ≤ 4398046511000 := by have := h.many; omega
    clear h k hn hn2
    go_enter Try.func23, Try.ntmps23
    go_wp2
    go_loopw [5] (fun s5 wr => ∃ i : Nat, i ≤ n ∧ s5 = .int .i64 (i : Int) ∧ Hid (∀ j (h1 : j < l.length) (h2 : j < m.length), j < i → l[j] = m[j]) ∧ Hid (∃ z, wr = u.drewN z)) (fun s5 _ => n - (intOf s5).toNat)
    case atStart => exact ⟨0, Nat.zero_le _, rfl, fun j _ _ hj => absurd hj (by omega), 0, rfl⟩
    case round =>
      obtain ⟨i, hi, rfl, HE, HZ⟩ := hrel
      by_cases hlt : i < n
      · have hii : (i : Int) < (n : Int) := by omega
        obtain ⟨z, hz⟩ := unhide HZ
        have hA := (unhide HH).below (S.belowDrewN (Below.refl _ _) z)
        have hB := (unhide HK).below (S.belowDrewN (Below.refl _ _) z)
        rw [← hz] at hA hB
        obtain ⟨g1, o1, rfl, ix1, a0⟩ := at_ixW hA i (by rw [← unhide HN]; exact hlt)
        obtain ⟨g2, o2, rfl, ix2, b0⟩ := at_ixW hB i (by rw [← unhide HN2]; exact hlt)
        rw [← unhide HN] at ix1
        rw [← unhide HN2] at ix2
        have HZ2 := hide hz
        clear hA hB hz HZ
        have HB1 : i < l.length := by rw [← unhide HN]; exact hlt
        have HB2 : i < m.length := by rw [← unhide HN2]; exact hlt
        by_cases hq : l[i] = m[i]
        · have HE2 : Hid (∀ j (h1 : j < l.length) (h2 : j < m.length), j < i + 1 → l[j] = m[j]) := fun j h1 h2 hj => by
            rcases Nat.lt_or_ge j i with h | h
            · exact unhide HE j h1 h2 h
            · obtain rfl : j = i := by omega
              exact hq
          rw [← hq] at b0
          generalize l[i] = x at *
          clear hq HB1 HB2
          go_wp2
          go_quiet (first | fail)
          go_wp2
          go_roundw
          case rel => exact ⟨i + 1, by omega, by go_num, HE2, z + nq, by rw [unhide HZ2]; exact World.drewN_drewN ..⟩
          case measure => simp [intOf]; omega
        · have hne : ¬ ((l[i].toNat : Int) = (m[i].toNat : Int)) := fun e => hq (BitVec.eq_of_toNat_eq (by omega))
          have HD : Hid (¬ l = m) := fun e => hq (by subst e; rfl)
          generalize l[i] = x at *
          generalize m[i] = y at *
          clear hq HB1 HB2
          go_wp2
          go_quiet (first | fail)
          go_wp2
          go_ret
          exact ⟨by rw [unhide HR, decide_eq_false (unhide HD)]; rfl, z + nq, by rw [unhide HZ2]; exact World.drewN_drewN ..⟩
      · obtain rfl : i = n := by omega
        have hii : ¬ (i : Int) < (i : Int) := by omega
        go_wp2
        go_ret
        exact ⟨by rw [unhide HR, decide_eq_true (List.ext_getElem ((unhide HN).symm.trans (unhide HN2)) fun j h1 h2 => unhide HE j h1 h2 (by rw [unhide HN]; exact h1))]; rfl, unhide HZ⟩
  · have HD : Hid (¬ l = m) := fun e => he (by rw [hn, hn2, e])
    have he2 : ¬ (n : Int) = (n2 : Int) := by omega
    clear h k hn hn2
    go_enter Try.func23, Try.ntmps23
    go_wp2
    go_ret
    exact ⟨by rw [unhide HR, decide_eq_false (unhide HD)]; rfl, 0, rfl⟩
theorem con_in (n : Nat) (hn : 3 ≤ n) (x : BV) (c : BitVec 16) (i : Nat) (hi : i < 3) : con n x c (plc x n i) = cel x c := by
  have h := fun a b => plc_ne x x n a b hn
  have e : ∀ a, (plc x n a = plc x n i) ↔ a = i := fun a => ⟨fun q => h a i q, fun q => by rw [q]⟩
  unfold con
  rcases (by omega : i = 0 ∨ i = 1 ∨ i = 2) with rfl | rfl | rfl
  · rw [if_pos rfl, if_neg (by rw [e]; decide), if_neg (by rw [e]; decide), Ce.add_zer, Ce.add_zer]
  · rw [if_neg (by rw [e]; decide), if_pos rfl, if_neg (by rw [e]; decide), Ce.zer_add, Ce.add_zer]
  · rw [if_neg (by rw [e]; decide), if_neg (by rw [e]; decide), if_pos rfl, Ce.zer_add, Ce.zer_add]
theorem con_out (n : Nat) (x : BV) (c : BitVec 16) (j : Nat) (h : ∀ i, i < 3 → plc x n i ≠ j) : con n x c j = .zer := by
  unfold con
  rw [if_neg (h 0 (by decide)), if_neg (h 1 (by decide)), if_neg (h 2 (by decide)), Ce.add_zer, Ce.add_zer]
theorem plc_up (n : Nat) (x : BV) (hn : 3 ≤ n) (i : Nat) (h0 : 0 < i) : plc x n 0 < plc x n i := by
  unfold plc
  have h1 : 0 < n / 3 := by omega
  have h2 := Nat.mod_lt (mixB x (BitVec.ofNat 64 0)).toNat h1
  have h3 : 1 * (n / 3) ≤ i * (n / 3) := Nat.mul_le_mul_right _ h0
  generalize (mixB x (BitVec.ofNat 64 0)).toNat % (n / 3) = p at *
  generalize (mixB x (BitVec.ofNat 64 i)).toNat % (n / 3) = q at *
  generalize i * (n / 3) = y at *
  omega
theorem lay_zer (n : Nat) (x : BV) (c : BitVec 16) (j : Nat) (hj : j < (layB (zerL n) x c).length) : (layB (zerL n) x c)[j] = con n x c j := by
  have h := layB_get (zerL n) x c j
  have hj2 : j < n := by rw [layB_len, zerL_len] at hj; exact hj
  rw [List.getElem?_eq_getElem hj, List.getElem?_eq_getElem (by rw [zerL_len]; exact hj2), zerL_get, zerL_len] at h
  simpa [Ce.zer_add] using h
theorem lay_back (l : List Ce) (x : BV) (c : BitVec 16) : layB (layB l x c) x (-c) = l := by
  rw [layB_zip (layB l x c), layB_len, layB_zip l, zip_zip]
  rw [show (fun j => (con l.length x c j).add (con l.length x (-c) j)) = fun _ => Ce.zer from funext fun j => by rw [con_neg, Ce.add_neg]]
  exact zip_zer l
theorem lay_comm (l : List Ce) (x y : BV) (c d : BitVec 16) : layB (layB l x c) y d = layB (layB l y d) x c := by
  rw [layB_zip (layB l x c), layB_len, layB_zip l x, zip_zip, layB_zip (layB l y d), layB_len, layB_zip l y, zip_zip]
  exact congrArg (fun f => zip f l) (funext fun j => Ce.add_comm _ _)
theorem pure_zer (n i : Nat) : pureC n i .zer = false := by
  unfold pureC
  refine decide_eq_false fun h => ?_
  rcases h.1 with h | h <;> exact absurd h (by decide)
theorem firI_zer (n : Nat) : firI (zerL n) = -1 := firI_none fun j hj => by rw [zerL_get]; exact pure_zer _ _
theorem firI_one (n : Nat) (hn : 3 ≤ n) (x : BV) (c : BitVec 16) (hc : c = 1 ∨ c = -1) : firI (layB (zerL n) x c) = (plc x n 0 : Nat) := by
  have hp := plc_lt x n 0 hn (by decide)
  have hl : (layB (zerL n) x c).length = n := by rw [layB_len, zerL_len]
  have hi : plc x n 0 < (layB (zerL n) x c).length := by rw [hl]; exact hp
  refine firI_some hi ?_ fun j hj hlt => ?_
  · rw [lay_zer, con_in n hn x c 0 (by decide), hl]
    unfold pureC
    exact decide_eq_true ⟨hc, rfl, .inl rfl⟩
  · rw [lay_zer, con_out n x c j, hl]
    · exact pure_zer _ _
    · intro i h3 he
      rcases Nat.eq_zero_or_pos i with h | h
      · rw [h] at he; omega
      · have := plc_up n x hn i h; omega
theorem peel_one (n : Nat) (hn : 3 ≤ n) (x : BV) : peelN n [] [] (layB (zerL n) x 1) = ([x], [], zerL n) := by
  obtain ⟨f, rfl⟩ : ∃ f, n = f + 1 := ⟨n - 1, by omega⟩
  have hf := firI_one (f + 1) hn x 1 (.inl rfl)
  have hi : plc x (f + 1) 0 < (layB (zerL (f + 1)) x 1).length := by rw [layB_len, zerL_len]; exact plc_lt x _ 0 hn (by decide)
  have hc : (layB (zerL (f + 1)) x 1)[plc x (f + 1) 0] = cel x 1 := by rw [lay_zer, con_in (f + 1) hn x 1 0 (by decide)]
  rw [peelN_more hi hf (by rw [hc]; show 0 < (1 : BitVec 16).toInt; decide), hc]
  show peelN f ([] ++ [x]) [] (layB (layB (zerL (f + 1)) x 1) x (-1)) = _
  rw [lay_back, peelN_stop (firI_zer _)]
  rfl
theorem peel_less (n : Nat) (hn : 3 ≤ n) (x : BV) : peelN n [] [] (layB (zerL n) x (-1)) = ([], [x], zerL n) := by
  obtain ⟨f, rfl⟩ : ∃ f, n = f + 1 := ⟨n - 1, by omega⟩
  have hf := firI_one (f + 1) hn x (-1) (.inr rfl)
  have hi : plc x (f + 1) 0 < (layB (zerL (f + 1)) x (-1)).length := by rw [layB_len, zerL_len]; exact plc_lt x _ 0 hn (by decide)
  have hc : (layB (zerL (f + 1)) x (-1))[plc x (f + 1) 0] = cel x (-1) := by rw [lay_zer, con_in (f + 1) hn x (-1) 0 (by decide)]
  rw [peelN_less hi hf (by rw [hc]; show ¬ 0 < (-1 : BitVec 16).toInt; decide), hc]
  show peelN f [] ([] ++ [x]) (layB (layB (zerL (f + 1)) x (-1)) x (-(-1))) = _
  rw [lay_back, peelN_stop (firI_zer _)]
  rfl
theorem peel_zer (n : Nat) : peelN n [] [] (zerL n) = ([], [], zerL n) := peelN_stop (firI_zer _)
theorem itemN_seg (e : En) : itemN e / 281474976710656 = plN e.1 := by
  unfold itemN
  have h2 := hdN_lt (73 :: (textB e.1 ++ textB e.2)) 6 (by decide)
  simp only [Nat.reducePow] at h2
  omega
theorem pl_a : plN ⟨#[97]⟩ = 2005 := by kernel_rfl
theorem at_lit {w : World} {B c : Nat} {l : List Ce} {ao : Option Addr} {x : Ce} (h : RC.Own w B l ao c) (h3 : l.length = 3) (hx : ∀ j (hj : j < l.length), l[j] = x) : ∃ g, ao = some ⟨g, 0, none⟩ ∧
    (∀ W : World, (Instr.indexAt 32 (.slice (some ⟨g, 0, none⟩) 3 c) (.int .i64 0)).run Try.prog W = .ok (.pointer (some ⟨g, 0, none⟩)) W) ∧
    (∀ W : World, (Instr.indexAt 32 (.slice (some ⟨g, 0, none⟩) 3 c) (.int .i64 2)).run Try.prog W = .ok (.pointer (some ⟨g, 6, none⟩)) W) ∧
    w.cell? ⟨g, 0, none⟩ = some (.int .i16 x.c.toInt) ∧ w.cell? ⟨g, 7, none⟩ = some (.int .u64 x.x.toNat) := by
  obtain ⟨g, cs, t, rfl, hg, hr, hh, hc⟩ := own_hol h (by omega)
  obtain ⟨a0, a1, a2⟩ := hh.get 0 (by omega)
  obtain ⟨b0, b1, b2⟩ := hh.get 2 (by omega)
  rw [hx 0] at a0
  rw [hx 2] at b1
  exact ⟨g, rfl, fun W => RC.ix g 0 3 c 0 (by decide) W, fun W => RC.ix g 0 3 c 2 (by decide) W, S.arr_cell hr a0, S.arr_cell hr b1⟩
set_option maxRecDepth 100000 in
set_option maxHeartbeats 4000000 in
theorem lWorks (u : World) : Calls Try.prog 17 #[] u fun e u' => e = .returned (.bool true) ∧ Below u.heap.size u u' := by
  have HN := hide (kNew 3 (by decide) (by decide) u)
  have HI := hide (fun w => kItem (⟨#[97]⟩, ⟨#[120]⟩) (by decide) (by decide) w)
  have hs := itemN_seg (⟨#[97]⟩, ⟨#[120]⟩)
  have hv := itemN_lt (⟨#[97]⟩, ⟨#[120]⟩)
  rw [show plN (⟨#[97]⟩, (⟨#[120]⟩ : ByteArray)).1 = 2005 from pl_a] at hs
  generalize itemN (⟨#[97]⟩, ⟨#[120]⟩) = v at *
  have HSG : Hid (∀ w, Calls Try.prog 16 #[.int .u64 (v : Int)] w fun e u' => e = .returned (.int .i64 2005) ∧ u' = w) := fun w => by
    have h := kSegment v (by omega) w
    rw [hs] at h
    exact h
  have hl : layB (layB (layB (zerL 3) 7 1) 9 1) 7 (-1) = layB (zerL 3) 9 1 := by
    rw [lay_comm (zerL 3) 7 9 1 1, lay_back]
  have HP := hide (peel_one 3 (by decide) 9)
  have hc : ∀ j (hj : j < (layB (zerL 3) (9 : BV) 1).length), (layB (zerL 3) (9 : BV) 1)[j] = cel 9 1 := fun j hj => by
    rw [lay_zer]
    have h1 : j < 3 := by rw [layB_len, zerL_len] at hj; exact hj
    have h2 : plc (9 : BV) 3 j = j := by unfold plc; rw [show 3 / 3 = 1 from rfl, Nat.mod_one]; omega
    have h3 := con_in 3 (by decide) (9 : BV) 1 j h1
    rw [h2] at h3
    exact h3
  have hl9 : (layB (zerL 3) (9 : BV) 1).length = 3 := by rw [layB_len, zerL_len]
  have HL := hide hl
  have HC := hide hc
  have HL9 := hide hl9
  clear hs hv hl hc hl9
  go_enter Try.func17, Try.ntmps17
  go_wp2_with (first
    | (go_at_call 12; refine (unhide HN).mono ?_; rintro e W1 ⟨a, g, rfl, hs, hb, h1, h2⟩; have HB1 := hide hb; have HG := hide h2; have HA1 := hide (kAdd (7 : BV) hs); clear hs hb h1 h2 HN)
    | (go_at_call 8; refine (unhide HA1).mono ?_; rintro e W2 ⟨rfl, ha, hs⟩; have HB2 := hide ((unhide HB1).trans (ha.below (unhide HG) (unhide HB1).size)); have HA2 := hide (kAdd (9 : BV) hs); clear hs ha HA1)
    | (go_at_call 8; refine (unhide HA2).mono ?_; rintro e W3 ⟨rfl, ha, hs⟩; have HB3 := hide ((unhide HB2).trans (ha.below (unhide HG) (unhide HB2).size)); have HA3 := hide (kTake (7 : BV) hs); clear hs ha HA2)
    | (go_at_call 9; refine (unhide HA3).mono ?_; rintro e W4 ⟨rfl, ha, hs⟩; have HB4 := hide ((unhide HB3).trans (ha.below (unhide HG) (unhide HB3).size)); rw [unhide HL] at hs; have HS4 := hide hs; have hpe := kPeel a g 3 (layB (zerL 3) 9 1) [9] [] (zerL 3) W4 hs (by rw [unhide HL9]; exact unhide HP) (sort_one [9] (by decide)) (sort_one [] (by decide)); rw [zerL_len, decide_eq_true rfl] at hpe; have HPE := hide hpe; clear hs ha HA3 hpe)
    | (go_at_call 11; refine (unhide HPE).mono ?_; rintro e W5 ⟨xo, cx, yo, cy, rfl, hm, hl, -, hb⟩; rw [srtB_one (by decide)] at hm; have HM5 := hide hm; have HB5 := hide ((unhide HB4).trans (hb.mono (unhide HB4).size)); have HS5 := hide ((unhide HS4).below hb); have HCE := hide (kCells (unhide HS5)); rw [unhide HL9] at HCE; clear hm hl hb HPE)
    | (go_at_call 13; refine (unhide HCE).mono ?_; rintro e W6 ⟨zo, cz, rfl, ho, hb⟩; have HO6 := hide ho; have HB6 := hide ((unhide HB5).trans (hb.mono (unhide HB5).size)); have HM6 := (unhide HM5).below hb; obtain ⟨g6, rfl, ix0, ix2, c0, c7⟩ := at_lit ho (unhide HL9) (unhide HC); replace c0 : W6.cell? ⟨g6, 0, none⟩ = some (.int .i16 1) := c0; replace c7 : W6.cell? ⟨g6, 7, none⟩ = some (.int .u64 9) := c7; have hsa := lSameI [9] [9] xo (some ⟨W6.heap.size, 0, none⟩) cx 1 (W6.alloc (.cells #[.int .u64 9] 24)) ((HM6.below ((Below.refl _ _).alloc (Nat.le_refl _) _)).at (by decide)) (oneW W6 9); rw [decide_eq_true rfl] at hsa; have HSA := hide hsa; have HB7 : Hid (Below u.heap.size u (W6.alloc (.cells #[.int .u64 9] 24))) := (unhide HB6).alloc (unhide HB6).size _; clear ho hb HCE hsa HM6)
    | (go_at_call 23; refine (unhide HSA).mono ?_; rintro e W8 ⟨rfl, z8, hz8⟩; have HB8 : Hid (Below u.heap.size u W8) := (by rw [hz8]; exact S.belowDrewN (unhide HB7) z8); clear hz8 HSA)
    | (go_at_call 14; refine (unhide HI _).mono ?_; rintro e W9 ⟨rfl, hb⟩; have HB9 := hide ((unhide HB8).trans (hb.mono (unhide HB8).size)); clear hb HI)
    | (go_at_call 16; refine (unhide HSG _).mono ?_; rintro e wq ⟨rfl, hwq⟩; obtain rfl := hwq.symm; clear HSG)
    | fail)
  go_ret
  exact ⟨rfl, unhide HB9⟩
end Go.Proofs.Ytopabadnbelegaa.K
