/- Sketches: the walk of One. -/
import Derived.Test.YtopabadnbelegaaQSkp
namespace Go.Proofs.Ytopabadnbelegaa.K
open Go.RowKit Go.Lib
open Go.Proofs.Ytopabadnbelegaa.S (Rec)
/-- items added, one behind the other -/
def adds : List Ce → List BV → List Ce
  | l, [] => l
  | l, y :: ys => adds (layB l y 1) ys
theorem adds_nil (l : List Ce) : adds l [] = l := by rw [adds]
theorem adds_cons (l : List Ce) (y : BV) (ys : List BV) : adds l (y :: ys) = adds (layB l y 1) ys := by rw [adds]
theorem adds_snoc (l : List Ce) (ys : List BV) (y : BV) : adds l (ys ++ [y]) = layB (adds l ys) y 1 := by
  induction ys generalizing l with
  | nil => rw [List.nil_append, adds_cons, adds_nil, adds_nil]
  | cons z ys ih => rw [List.cons_append, adds_cons, adds_cons, ih]
theorem adds_lay (l : List Ce) (ys : List BV) (x : BV) (c : BitVec 16) : layB (adds l ys) x c = adds (layB l x c) ys := by
  induction ys generalizing l with
  | nil => rw [adds_nil, adds_nil]
  | cons y ys ih => rw [adds_cons, adds_cons, ih, lay_comm]
theorem adds_len (l : List Ce) (ys : List BV) : (adds l ys).length = l.length := by
  induction ys generalizing l with
  | nil => rw [adds_nil]
  | cons y ys ih => rw [adds_cons, ih, layB_len]
theorem adds_take (l : List Ce) (ys : List BV) (i : Nat) (hi : i < ys.length) : adds l (ys.take (i + 1)) = layB (adds l (ys.take i)) ys[i] 1 := by
  rw [List.take_succ_eq_append_getElem hi, adds_snoc]
theorem adds_back (l : List Ce) (ys : List BV) (i : Nat) (hi : i < ys.length) : layB (adds l (ys.take (i + 1))) ys[i] (-1) = adds l (ys.take i) := by
  rw [adds_take l ys i hi, lay_back]
/-- a list of numbers that came in -/
structure AtW (w : World) (l : List BV) (ao : Option Addr) : Prop where
  lies : S.Lies w ao (RW.flat l)
  many : l.length ≤ 17592186044416
theorem AtW.below {w w' : World} {l : List BV} {ao : Option Addr} (h : AtW w l ao) (hb : Below w.heap.size w w') : AtW w' l ao := ⟨h.lies.below hb, h.many⟩
theorem at_ixB {w : World} {l : List BV} {ao : Option Addr} (h : AtW w l ao) (c i : Nat) (hi : i < l.length) : ∃ g o, ao = some ⟨g, o, none⟩ ∧
    (∀ W : World, (Instr.indexAt 28 (.slice ao l.length c) (.int .i64 (i : Int))).run Try.prog W = .ok (.pointer (some ⟨g, o + i, none⟩)) W) ∧
    w.cell? ⟨g, o + i, none⟩ = some (.int .u64 l[i].toNat) := by
  obtain ⟨g, o, rfl, h1⟩ := h.lies (by rw [RW.flat_len]; exact Nat.mul_pos (by omega) RW.hn)
  refine ⟨g, o, rfl, fun W => ?_, ?_⟩
  · have h := RW.ix g o l.length c i hi W
    rw [show RW.n = 1 from rfl, Nat.mul_one] at h
    exact h
  · have h2 := RW.flat_get l i hi 0 (by decide)
    have h3 := h1 (i * RW.n + 0) _ h2
    rw [show RW.n = 1 from rfl, Nat.mul_one, Nat.add_zero] at h3
    exact h3
/-- two sketches side by side -/
structure Tw (u w : World) (B a g c b h d : Nat) (l m : List Ce) : Prop where
  s : Sk w a g c l
  t : Sk w b h d m
  n1 : a ≠ h ∧ g ≠ h ∧ b ≠ g
  bel : Below B u w
  hg : B ≤ g
  hh : B ≤ h
  hB : B ≤ w.heap.size
section
variable {u w w' : World} {B a g c b h d : Nat} {l l' m m' : List Ce}
theorem Tw.below (k : Tw u w B a g c b h d l m) (hb : Below w.heap.size w w') : Tw u w' B a g c b h d l m := ⟨k.s.below hb, k.t.below hb, k.n1, k.bel.trans (hb.mono k.hB), k.hg, k.hh, Nat.le_trans k.hB hb.size⟩
theorem Tw.layS (k : Tw u w B a g c b h d l m) (hg : g ≠ h) (ha : Alt w w' g) (hs : Sk w' a g c l') : Tw u w' B a g c b h d l' m := ⟨hs, k.t.alt ha k.n1.2.2 (Ne.symm hg), k.n1, k.bel.trans (ha.below k.hg k.hB), k.hg, k.hh, Nat.le_trans k.hB ha.size⟩
theorem Tw.layT (k : Tw u w B a g c b h d l m) (ha : Alt w w' h) (hs : Sk w' b h d m') : Tw u w' B a g c b h d l m' := ⟨k.s.alt ha k.n1.1 k.n1.2.1, hs, k.n1, k.bel.trans (ha.below k.hh k.hB), k.hg, k.hh, Nat.le_trans k.hB ha.size⟩
end
theorem mkTw {u W1 W2 W3 : World} {B a g n b h : Nat} {l m : List Ce} (hB : B = u.heap.size) (h1 : Below B u W1) (h2 : Below W1.heap.size W1 W2) (h3 : Below W2.heap.size W2 W3) (hs : Sk W2 a g n l) (ht : Sk W3 b h n m) (hg : W1.heap.size ≤ g) (hb : W2.heap.size ≤ b) (hh : W2.heap.size ≤ h) : Tw u W3 B a g n b h n l m := by
  subst hB
  obtain ⟨cs, t, hr, _⟩ := hs.row
  have e1 := (Array.getElem?_eq_some_iff.1 hs.box).1
  have e2 := (Array.getElem?_eq_some_iff.1 hr).1
  have e3 := h1.size
  have e4 := h2.size
  have e5 := h3.size
  exact ⟨hs.below h3, ht, ⟨by omega, by omega, by omega⟩, (h1.trans (h2.mono e3)).trans (h3.mono (by omega)), by omega, by omega, by omega⟩
theorem twNe {W2 : World} {a g n h : Nat} {l : List Ce} (hs : Sk W2 a g n l) (hh : W2.heap.size ≤ h) : g ≠ h := by
  obtain ⟨cs, t, hr, _⟩ := hs.row
  have e2 := (Array.getElem?_eq_some_iff.1 hr).1
  omega
set_option maxRecDepth 100000 in
set_option maxHeartbeats 4000000 in
theorem one16_core (x : BV) (n : Nat) (h3 : 3 ≤ n) (hm : n ≤ 256) (cs : Int) (hcs : (cs = (n : Int)) ∨ ((cs < 3 ∨ 256 < cs) ∧ n = 3)) (ys : List BV) (ao : Option Addr) (cp : Nat) (u : World) (ho : AtW u ys ao) : Calls Try.prog 7 #[.int .u64 x.toNat, .int .i64 cs, .slice ao ys.length cp] u fun e u' => e = .returned (.bool true) ∧ Below u.heap.size u u' := by
  have HW := hide (lWorks u)
  have HN := hide (fun w => kNew n h3 hm w)
  have HO := hide ho
  have HP1 := hide (peel_one n h3 x)
  have HP2 := hide (peel_less n h3 x)
  have HP0 := hide (peel_zer n)
  obtain ⟨q, hq⟩ : ∃ q, q = ys.length := ⟨_, rfl⟩
  have hqm : (q : Int) ≤ 17592186044416 := by have := ho.many; omega
  have HQ := hide hq
  rw [← hq]
  obtain ⟨B, hB⟩ : ∃ B, B = u.heap.size := ⟨_, rfl⟩
  rw [← hB] at HW ⊢
  have HB := hide hB
  clear ho hq hB
  rcases hcs with rfl | ⟨hc, rfl⟩
  · have hlo : ¬ (n : Int) < 3 := by have := h3; omega
    have hhi : ¬ (n : Int) > 256 := by have := hm; omega
    clear h3 hm
    go_enter Try.func7, Try.ntmps7
    go_wp2_with (first
      | (go_at_call 17; refine (unhide HW).mono ?_; rintro e W1 ⟨rfl, hb⟩; have HB1 := hide hb; have HN1 := hide (unhide HN W1); clear hb HW)
      | (go_at_call 12; refine (unhide HN1).mono ?_; rintro e W2 ⟨a, g, rfl, hs, hb, h1, h2⟩; have HB2 := hide hb; have HS2 := hide hs; have HGE := hide h2; have HAE := hide h1; have HN2 := hide (unhide HN W2); clear hb hs h1 h2 HN1)
      | (go_at_call 12; refine (unhide HN2).mono ?_; rintro e W3 ⟨b, h, rfl, hs, hb, h1, h2⟩; have HT3 := hide (mkTw (unhide HB) (unhide HB1) (unhide HB2) hb (unhide HS2) hs (unhide HGE) h1 h2); have HNE := hide (twNe (unhide HS2) h2); have HC3 := hide (kAdd x (unhide HT3).s); clear hb hs h1 h2 HN2 HGE HAE HB2 HB1)
      | (go_at_call 8; refine (unhide HC3).mono ?_; rintro e W4 ⟨rfl, ha, hs⟩; have HT4 := hide ((unhide HT3).layS (unhide HNE) ha hs); have HC4 := hide (kTake x (unhide HT4).t); clear ha hs HC3)
      | (go_at_call 9; refine (unhide HC4).mono ?_; rintro e W5 ⟨rfl, ha, hs⟩; have HT5 := hide ((unhide HT4).layT ha hs); have hp := kPeel a g n (layB (zerL n) x 1) [x] [] (zerL n) W5 (unhide HT5).s (by rw [layB_len, zerL_len]; exact unhide HP1) (sort_one [x] (Nat.le_refl 1)) (sort_one [] (by decide)); rw [zerL_len, decide_eq_true rfl] at hp; have HC5 := hide hp; clear ha hs hp HC4)
      | (go_at_call 11; refine (unhide HC5).mono ?_; rintro e W6 ⟨xo, cx, yo, cy, rfl, hm, hl, -, hb⟩; rw [srtB_one (m := [x]) (Nat.le_refl 1)] at hm; have HM6 := hide hm; have HT6 := hide ((unhide HT5).below hb); have hp := kPeel b h n (layB (zerL n) x (-1)) [] [x] (zerL n) W6 (unhide HT6).t (by rw [layB_len, zerL_len]; exact unhide HP2) (sort_one [] (by decide)) (sort_one [x] (Nat.le_refl 1)); rw [zerL_len, decide_eq_true rfl] at hp; have HC6 := hide hp; clear hm hl hb hp HC5)
      | (go_at_call 11; refine (unhide HC6).mono ?_; rintro e W7 ⟨po, cq, qo, cr, rfl, hm, hl, -, hb⟩; rw [srtB_one (m := [x]) (Nat.le_refl 1)] at hl; have HT7 := hide ((unhide HT6).below hb); have HL7 := hide hl; have HU7 := hide ((Below.refl W7.heap.size W7).alloc (Nat.le_refl _) (.cells #[.int .u64 x.toNat] 24)); have hsa := lSameI [x] [x] xo (some ⟨W7.heap.size, 0, none⟩) cx 1 (W7.alloc (.cells #[.int .u64 x.toNat] 24)) ((((unhide HM6).below hb).below (unhide HU7)).at (by show 1 ≤ _; decide)) (oneW W7 x); rw [decide_eq_true rfl] at hsa; have HSA := hide hsa; have HT8 := hide ((unhide HT7).below (unhide HU7)); have HL8 := hide ((unhide HL7).below (unhide HU7)); clear hm hl hb hsa HC6 HM6)
      | (go_at_call 23; refine (unhide HSA).mono ?_; rintro e W8 ⟨rfl, z8, hz8⟩; have hd8 := S.belowDrewN (Below.refl (W7.alloc (.cells #[.int .u64 x.toNat] 24)).heap.size (W7.alloc (.cells #[.int .u64 x.toNat] 24))) z8; rw [← hz8] at hd8; have HT9 := hide ((unhide HT8).below hd8); have HL9 := hide ((unhide HL8).below hd8); have HU9 := hide ((Below.refl W8.heap.size W8).alloc (Nat.le_refl _) (.cells #[.int .u64 x.toNat] 24)); have hsb := lSameI [x] [x] qo (some ⟨W8.heap.size, 0, none⟩) cr 1 (W8.alloc (.cells #[.int .u64 x.toNat] 24)) (((unhide HL9).below (unhide HU9)).at (by show 1 ≤ _; decide)) (oneW W8 x); rw [decide_eq_true rfl] at hsb; have HSB := hide hsb; have HTA := hide ((unhide HT9).below (unhide HU9)); clear hd8 hz8 hsb HSA)
      | (go_at_call 23; refine (unhide HSB).mono ?_; rintro e W9 ⟨rfl, z9, hz9⟩; have hd9 := S.belowDrewN (Below.refl (W8.alloc (.cells #[.int .u64 x.toNat] 24)).heap.size (W8.alloc (.cells #[.int .u64 x.toNat] 24))) z9; rw [← hz9] at hd9; have HTB := hide ((unhide HTA).below hd9); clear hd9 hz9 HSB)
      | fail)
    clear HT3 HT4 HT5 HT6 HT7 HT8 HT9 HTA HL7 HL8 HL9 HU7 HU9 HS2 HP1 HP2 HN
    go_loopw [17] (fun s17 wr => ∃ i : Nat, i ≤ q ∧ s17 = .int .i64 (i : Int) ∧ Hid (Tw u wr B a g n b h n (adds (layB (zerL n) x 1) (ys.take i)) (layB (zerL n) x (-1)))) (fun s17 _ => q - (intOf s17).toNat)
    case atStart => exact ⟨0, Nat.zero_le _, rfl, by rw [List.take_zero, adds_nil]; exact HTB⟩
    case round =>
      clear HTB
      obtain ⟨i, hi, rfl, HT⟩ := hrel
      by_cases hlt : i < q
      · have hii : (i : Int) < (q : Int) := by omega
        have hily : i < ys.length := by rw [← unhide HQ]; exact hlt
        obtain ⟨go, oo, rfl, ix1, c0⟩ := at_ixB ((unhide HO).below (by have hb := (unhide HT).bel; rw [unhide HB] at hb; exact hb)) cp i hily
        rw [← unhide HQ] at ix1
        have HAD := hide (kAdd ys[i] (unhide HT).s)
        have HNX := hide (adds_take (layB (zerL n) x 1) ys i hily)
        generalize ys[i] = y at *
        clear hily
        go_wp2_with (first
          | (go_at_call 8; refine (unhide HAD).mono ?_; rintro e X1 ⟨rfl, ha, hs⟩; have HX := hide ((unhide HT).layS (unhide HNE) ha hs); clear ha hs HAD)
          | fail)
        go_roundw
        case rel => exact ⟨i + 1, by omega, by go_num, by rw [unhide HNX]; exact HX⟩
        case measure => simp [intOf]; omega
      · have hii : ¬ (i : Int) < (q : Int) := by omega
        have hiq : i = q := by omega
        have HT0 : Hid (Tw u wr B a g n b h n (adds (layB (zerL n) x 1) ys) (layB (zerL n) x (-1))) := by
          have h1 := unhide HT
          rw [hiq, unhide HQ, List.take_length] at h1
          exact h1
        have htk := kTake x (unhide HT0).s
        rw [adds_lay, lay_back] at htk
        have HTK := hide htk
        have hq1 : wrap64 ((q : Int) - 1) = (q : Int) - 1 := by simp only [wrap64]; omega
        clear htk hiq hlt hi
        go_wp2_with (first
          | (go_at_call 9; refine (unhide HTK).mono ?_; rintro e X2 ⟨rfl, ha, hs⟩; have HX2 := hide ((unhide HT0).layS (unhide HNE) ha hs); clear ha hs HTK)
          | fail)
        clear HT HT0 hii
        go_loopw [18] (fun s18 wv => ∃ i : Nat, i ≤ q ∧ s18 = .int .i64 ((i : Int) - 1) ∧ Hid (Tw u wv B a g n b h n (adds (zerL n) (ys.take i)) (layB (zerL n) x (-1)))) (fun s18 _ => (intOf s18 + 1).toNat)
        case atStart => exact ⟨q, Nat.le_refl _, rfl, by rw [unhide HQ, List.take_length]; exact HX2⟩
        case round =>
          clear HX2
          obtain ⟨i, hi, rfl, HT⟩ := hrel
          cases i with
          | zero =>
            have hp := kPeel a g n (zerL n) [] [] (zerL n) _ (by have h1 := (unhide HT).s; rw [List.take_zero, adds_nil] at h1; exact h1) (by rw [zerL_len]; exact unhide HP0) (sort_one [] (by decide)) (sort_one [] (by decide))
            rw [zerL_len, decide_eq_true rfl] at hp
            have HPL := hide hp
            have hm1 : ¬ (0 : Int) ≤ ((0 : Nat) : Int) - 1 := by decide
            clear hp
            go_wp2_with (first
              | (go_at_call 11; refine (unhide HPL).mono ?_; rintro e X3 ⟨xo3, cx3, yo3, cy3, rfl, -, -, -, hb⟩; have HB3 := hide ((unhide HT).below hb).bel; clear hb HPL)
              | fail)
            go_ret
            exact ⟨rfl, unhide HB3⟩
          | succ j =>
            have e1 : (((j + 1 : Nat) : Int) - 1) = (j : Int) := by omega
            rw [e1]
            have hjj : (0 : Int) ≤ (j : Int) := by omega
            have hjq : (j : Int) < (q : Int) := by omega
            have hjly : j < ys.length := by rw [← unhide HQ]; omega
            obtain ⟨go, oo, rfl, ix1, c0⟩ := at_ixB ((unhide HO).below (by have hb := (unhide HT).bel; rw [unhide HB] at hb; exact hb)) cp j hjly
            rw [← unhide HQ] at ix1
            have htk := kTake ys[j] (unhide HT).s
            rw [adds_back (zerL n) ys j hjly] at htk
            have HTK := hide htk
            have hw : wrap64 ((j : Int) - 1) = (j : Int) - 1 := by simp only [wrap64]; omega
            generalize ys[j] = y at *
            clear hjly htk e1
            go_wp2_with (first
              | (go_at_call 9; refine (unhide HTK).mono ?_; rintro e X4 ⟨rfl, ha, hs⟩; have HX := hide ((unhide HT).layS (unhide HNE) ha hs); clear ha hs HTK)
              | fail)
            go_roundw
            case rel => exact ⟨j, by omega, rfl, HX⟩
            case measure => simp [intOf]
  · by_cases hc3 : cs < 3
    · clear hc
      go_enter Try.func7, Try.ntmps7
      go_wp2_with (first
        | (go_at_call 17; refine (unhide HW).mono ?_; rintro e W1 ⟨rfl, hb⟩; have HB1 := hide hb; have HN1 := hide (unhide HN W1); clear hb HW)
        | (go_at_call 12; refine (unhide HN1).mono ?_; rintro e W2 ⟨a, g, rfl, hs, hb, h1, h2⟩; have HB2 := hide hb; have HS2 := hide hs; have HGE := hide h2; have HAE := hide h1; have HN2 := hide (unhide HN W2); clear hb hs h1 h2 HN1)
        | (go_at_call 12; refine (unhide HN2).mono ?_; rintro e W3 ⟨b, h, rfl, hs, hb, h1, h2⟩; have HT3 := hide (mkTw (unhide HB) (unhide HB1) (unhide HB2) hb (unhide HS2) hs (unhide HGE) h1 h2); have HNE := hide (twNe (unhide HS2) h2); have HC3 := hide (kAdd x (unhide HT3).s); clear hb hs h1 h2 HN2 HGE HAE HB2 HB1)
        | (go_at_call 8; refine (unhide HC3).mono ?_; rintro e W4 ⟨rfl, ha, hs⟩; have HT4 := hide ((unhide HT3).layS (unhide HNE) ha hs); have HC4 := hide (kTake x (unhide HT4).t); clear ha hs HC3)
        | (go_at_call 9; refine (unhide HC4).mono ?_; rintro e W5 ⟨rfl, ha, hs⟩; have HT5 := hide ((unhide HT4).layT ha hs); have hp := kPeel a g 3 (layB (zerL 3) x 1) [x] [] (zerL 3) W5 (unhide HT5).s (by rw [layB_len, zerL_len]; exact unhide HP1) (sort_one [x] (Nat.le_refl 1)) (sort_one [] (by decide)); rw [zerL_len, decide_eq_true rfl] at hp; have HC5 := hide hp; clear ha hs hp HC4)
        | (go_at_call 11; refine (unhide HC5).mono ?_; rintro e W6 ⟨xo, cx, yo, cy, rfl, hm, hl, -, hb⟩; rw [srtB_one (m := [x]) (Nat.le_refl 1)] at hm; have HM6 := hide hm; have HT6 := hide ((unhide HT5).below hb); have hp := kPeel b h 3 (layB (zerL 3) x (-1)) [] [x] (zerL 3) W6 (unhide HT6).t (by rw [layB_len, zerL_len]; exact unhide HP2) (sort_one [] (by decide)) (sort_one [x] (Nat.le_refl 1)); rw [zerL_len, decide_eq_true rfl] at hp; have HC6 := hide hp; clear hm hl hb hp HC5)
        | (go_at_call 11; refine (unhide HC6).mono ?_; rintro e W7 ⟨po, cq, qo, cr, rfl, hm, hl, -, hb⟩; rw [srtB_one (m := [x]) (Nat.le_refl 1)] at hl; have HT7 := hide ((unhide HT6).below hb); have HL7 := hide hl; have HU7 := hide ((Below.refl W7.heap.size W7).alloc (Nat.le_refl _) (.cells #[.int .u64 x.toNat] 24)); have hsa := lSameI [x] [x] xo (some ⟨W7.heap.size, 0, none⟩) cx 1 (W7.alloc (.cells #[.int .u64 x.toNat] 24)) ((((unhide HM6).below hb).below (unhide HU7)).at (by show 1 ≤ _; decide)) (oneW W7 x); rw [decide_eq_true rfl] at hsa; have HSA := hide hsa; have HT8 := hide ((unhide HT7).below (unhide HU7)); have HL8 := hide ((unhide HL7).below (unhide HU7)); clear hm hl hb hsa HC6 HM6)
        | (go_at_call 23; refine (unhide HSA).mono ?_; rintro e W8 ⟨rfl, z8, hz8⟩; have hd8 := S.belowDrewN (Below.refl (W7.alloc (.cells #[.int .u64 x.toNat] 24)).heap.size (W7.alloc (.cells #[.int .u64 x.toNat] 24))) z8; rw [← hz8] at hd8; have HT9 := hide ((unhide HT8).below hd8); have HL9 := hide ((unhide HL8).below hd8); have HU9 := hide ((Below.refl W8.heap.size W8).alloc (Nat.le_refl _) (.cells #[.int .u64 x.toNat] 24)); have hsb := lSameI [x] [x] qo (some ⟨W8.heap.size, 0, none⟩) cr 1 (W8.alloc (.cells #[.int .u64 x.toNat] 24)) (((unhide HL9).below (unhide HU9)).at (by show 1 ≤ _; decide)) (oneW W8 x); rw [decide_eq_true rfl] at hsb; have HSB := hide hsb; have HTA := hide ((unhide HT9).below (unhide HU9)); clear hd8 hz8 hsb HSA)
        | (go_at_call 23; refine (unhide HSB).mono ?_; rintro e W9 ⟨rfl, z9, hz9⟩; have hd9 := S.belowDrewN (Below.refl (W8.alloc (.cells #[.int .u64 x.toNat] 24)).heap.size (W8.alloc (.cells #[.int .u64 x.toNat] 24))) z9; rw [← hz9] at hd9; have HTB := hide ((unhide HTA).below hd9); clear hd9 hz9 HSB)
        | fail)
      clear HT3 HT4 HT5 HT6 HT7 HT8 HT9 HTA HL7 HL8 HL9 HU7 HU9 HS2 HP1 HP2 HN
      go_loopw [17] (fun s17 wr => ∃ i : Nat, i ≤ q ∧ s17 = .int .i64 (i : Int) ∧ Hid (Tw u wr B a g 3 b h 3 (adds (layB (zerL 3) x 1) (ys.take i)) (layB (zerL 3) x (-1)))) (fun s17 _ => q - (intOf s17).toNat)
      case atStart => exact ⟨0, Nat.zero_le _, rfl, by rw [List.take_zero, adds_nil]; exact HTB⟩
      case round =>
        clear HTB
        obtain ⟨i, hi, rfl, HT⟩ := hrel
        by_cases hlt : i < q
        · have hii : (i : Int) < (q : Int) := by omega
          have hily : i < ys.length := by rw [← unhide HQ]; exact hlt
          obtain ⟨go, oo, rfl, ix1, c0⟩ := at_ixB ((unhide HO).below (by have hb := (unhide HT).bel; rw [unhide HB] at hb; exact hb)) cp i hily
          rw [← unhide HQ] at ix1
          have HAD := hide (kAdd ys[i] (unhide HT).s)
          have HNX := hide (adds_take (layB (zerL 3) x 1) ys i hily)
          generalize ys[i] = y at *
          clear hily
          go_wp2_with (first
            | (go_at_call 8; refine (unhide HAD).mono ?_; rintro e X1 ⟨rfl, ha, hs⟩; have HX := hide ((unhide HT).layS (unhide HNE) ha hs); clear ha hs HAD)
            | fail)
          go_roundw
          case rel => exact ⟨i + 1, by omega, by go_num, by rw [unhide HNX]; exact HX⟩
          case measure => simp [intOf]; omega
        · have hii : ¬ (i : Int) < (q : Int) := by omega
          have hiq : i = q := by omega
          have HT0 : Hid (Tw u wr B a g 3 b h 3 (adds (layB (zerL 3) x 1) ys) (layB (zerL 3) x (-1))) := by
            have h1 := unhide HT
            rw [hiq, unhide HQ, List.take_length] at h1
            exact h1
          have htk := kTake x (unhide HT0).s
          rw [adds_lay, lay_back] at htk
          have HTK := hide htk
          have hq1 : wrap64 ((q : Int) - 1) = (q : Int) - 1 := by simp only [wrap64]; omega
          clear htk hiq hlt hi
          go_wp2_with (first
            | (go_at_call 9; refine (unhide HTK).mono ?_; rintro e X2 ⟨rfl, ha, hs⟩; have HX2 := hide ((unhide HT0).layS (unhide HNE) ha hs); clear ha hs HTK)
            | fail)
          clear HT HT0 hii
          go_loopw [18] (fun s18 wv => ∃ i : Nat, i ≤ q ∧ s18 = .int .i64 ((i : Int) - 1) ∧ Hid (Tw u wv B a g 3 b h 3 (adds (zerL 3) (ys.take i)) (layB (zerL 3) x (-1)))) (fun s18 _ => (intOf s18 + 1).toNat)
          case atStart => exact ⟨q, Nat.le_refl _, rfl, by rw [unhide HQ, List.take_length]; exact HX2⟩
          case round =>
            clear HX2
            obtain ⟨i, hi, rfl, HT⟩ := hrel
            cases i with
            | zero =>
              have hp := kPeel a g 3 (zerL 3) [] [] (zerL 3) _ (by have h1 := (unhide HT).s; rw [List.take_zero, adds_nil] at h1; exact h1) (by rw [zerL_len]; exact unhide HP0) (sort_one [] (by decide)) (sort_one [] (by decide))
              rw [zerL_len, decide_eq_true rfl] at hp
              have HPL := hide hp
              have hm1 : ¬ (0 : Int) ≤ ((0 : Nat) : Int) - 1 := by decide
              clear hp
              go_wp2_with (first
                | (go_at_call 11; refine (unhide HPL).mono ?_; rintro e X3 ⟨xo3, cx3, yo3, cy3, rfl, -, -, -, hb⟩; have HB3 := hide ((unhide HT).below hb).bel; clear hb HPL)
                | fail)
              go_ret
              exact ⟨rfl, unhide HB3⟩
            | succ j =>
              have e1 : (((j + 1 : Nat) : Int) - 1) = (j : Int) := by omega
              rw [e1]
              have hjj : (0 : Int) ≤ (j : Int) := by omega
              have hjq : (j : Int) < (q : Int) := by omega
              have hjly : j < ys.length := by rw [← unhide HQ]; omega
              obtain ⟨go, oo, rfl, ix1, c0⟩ := at_ixB ((unhide HO).below (by have hb := (unhide HT).bel; rw [unhide HB] at hb; exact hb)) cp j hjly
              rw [← unhide HQ] at ix1
              have htk := kTake ys[j] (unhide HT).s
              rw [adds_back (zerL 3) ys j hjly] at htk
              have HTK := hide htk
              have hw : wrap64 ((j : Int) - 1) = (j : Int) - 1 := by simp only [wrap64]; omega
              generalize ys[j] = y at *
              clear hjly htk e1
              go_wp2_with (first
                | (go_at_call 9; refine (unhide HTK).mono ?_; rintro e X4 ⟨rfl, ha, hs⟩; have HX := hide ((unhide HT).layS (unhide HNE) ha hs); clear ha hs HTK)
                | fail)
              go_roundw
              case rel => exact ⟨j, by omega, rfl, HX⟩
              case measure => simp [intOf]
    · have hc4 : cs > 256 := by omega
      clear hc
      go_enter Try.func7, Try.ntmps7
      go_wp2_with (first
        | (go_at_call 17; refine (unhide HW).mono ?_; rintro e W1 ⟨rfl, hb⟩; have HB1 := hide hb; have HN1 := hide (unhide HN W1); clear hb HW)
        | (go_at_call 12; refine (unhide HN1).mono ?_; rintro e W2 ⟨a, g, rfl, hs, hb, h1, h2⟩; have HB2 := hide hb; have HS2 := hide hs; have HGE := hide h2; have HAE := hide h1; have HN2 := hide (unhide HN W2); clear hb hs h1 h2 HN1)
        | (go_at_call 12; refine (unhide HN2).mono ?_; rintro e W3 ⟨b, h, rfl, hs, hb, h1, h2⟩; have HT3 := hide (mkTw (unhide HB) (unhide HB1) (unhide HB2) hb (unhide HS2) hs (unhide HGE) h1 h2); have HNE := hide (twNe (unhide HS2) h2); have HC3 := hide (kAdd x (unhide HT3).s); clear hb hs h1 h2 HN2 HGE HAE HB2 HB1)
        | (go_at_call 8; refine (unhide HC3).mono ?_; rintro e W4 ⟨rfl, ha, hs⟩; have HT4 := hide ((unhide HT3).layS (unhide HNE) ha hs); have HC4 := hide (kTake x (unhide HT4).t); clear ha hs HC3)
        | (go_at_call 9; refine (unhide HC4).mono ?_; rintro e W5 ⟨rfl, ha, hs⟩; have HT5 := hide ((unhide HT4).layT ha hs); have hp := kPeel a g 3 (layB (zerL 3) x 1) [x] [] (zerL 3) W5 (unhide HT5).s (by rw [layB_len, zerL_len]; exact unhide HP1) (sort_one [x] (Nat.le_refl 1)) (sort_one [] (by decide)); rw [zerL_len, decide_eq_true rfl] at hp; have HC5 := hide hp; clear ha hs hp HC4)
        | (go_at_call 11; refine (unhide HC5).mono ?_; rintro e W6 ⟨xo, cx, yo, cy, rfl, hm, hl, -, hb⟩; rw [srtB_one (m := [x]) (Nat.le_refl 1)] at hm; have HM6 := hide hm; have HT6 := hide ((unhide HT5).below hb); have hp := kPeel b h 3 (layB (zerL 3) x (-1)) [] [x] (zerL 3) W6 (unhide HT6).t (by rw [layB_len, zerL_len]; exact unhide HP2) (sort_one [] (by decide)) (sort_one [x] (Nat.le_refl 1)); rw [zerL_len, decide_eq_true rfl] at hp; have HC6 := hide hp; clear hm hl hb hp HC5)
        | (go_at_call 11; refine (unhide HC6).mono ?_; rintro e W7 ⟨po, cq, qo, cr, rfl, hm, hl, -, hb⟩; rw [srtB_one (m := [x]) (Nat.le_refl 1)] at hl; have HT7 := hide ((unhide HT6).below hb); have HL7 := hide hl; have HU7 := hide ((Below.refl W7.heap.size W7).alloc (Nat.le_refl _) (.cells #[.int .u64 x.toNat] 24)); have hsa := lSameI [x] [x] xo (some ⟨W7.heap.size, 0, none⟩) cx 1 (W7.alloc (.cells #[.int .u64 x.toNat] 24)) ((((unhide HM6).below hb).below (unhide HU7)).at (by show 1 ≤ _; decide)) (oneW W7 x); rw [decide_eq_true rfl] at hsa; have HSA := hide hsa; have HT8 := hide ((unhide HT7).below (unhide HU7)); have HL8 := hide ((unhide HL7).below (unhide HU7)); clear hm hl hb hsa HC6 HM6)
        | (go_at_call 23; refine (unhide HSA).mono ?_; rintro e W8 ⟨rfl, z8, hz8⟩; have hd8 := S.belowDrewN (Below.refl (W7.alloc (.cells #[.int .u64 x.toNat] 24)).heap.size (W7.alloc (.cells #[.int .u64 x.toNat] 24))) z8; rw [← hz8] at hd8; have HT9 := hide ((unhide HT8).below hd8); have HL9 := hide ((unhide HL8).below hd8); have HU9 := hide ((Below.refl W8.heap.size W8).alloc (Nat.le_refl _) (.cells #[.int .u64 x.toNat] 24)); have hsb := lSameI [x] [x] qo (some ⟨W8.heap.size, 0, none⟩) cr 1 (W8.alloc (.cells #[.int .u64 x.toNat] 24)) (((unhide HL9).below (unhide HU9)).at (by show 1 ≤ _; decide)) (oneW W8 x); rw [decide_eq_true rfl] at hsb; have HSB := hide hsb; have HTA := hide ((unhide HT9).below (unhide HU9)); clear hd8 hz8 hsb HSA)
        | (go_at_call 23; refine (unhide HSB).mono ?_; rintro e W9 ⟨rfl, z9, hz9⟩; have hd9 := S.belowDrewN (Below.refl (W8.alloc (.cells #[.int .u64 x.toNat] 24)).heap.size (W8.alloc (.cells #[.int .u64 x.toNat] 24))) z9; rw [← hz9] at hd9; have HTB := hide ((unhide HTA).below hd9); clear hd9 hz9 HSB)
        | fail)
      clear HT3 HT4 HT5 HT6 HT7 HT8 HT9 HTA HL7 HL8 HL9 HU7 HU9 HS2 HP1 HP2 HN
      go_loopw [17] (fun s17 wr => ∃ i : Nat, i ≤ q ∧ s17 = .int .i64 (i : Int) ∧ Hid (Tw u wr B a g 3 b h 3 (adds (layB (zerL 3) x 1) (ys.take i)) (layB (zerL 3) x (-1)))) (fun s17 _ => q - (intOf s17).toNat)
      case atStart => exact ⟨0, Nat.zero_le _, rfl, by rw [List.take_zero, adds_nil]; exact HTB⟩
      case round =>
        clear HTB
        obtain ⟨i, hi, rfl, HT⟩ := hrel
        by_cases hlt : i < q
        · have hii : (i : Int) < (q : Int) := by omega
          have hily : i < ys.length := by rw [← unhide HQ]; exact hlt
          obtain ⟨go, oo, rfl, ix1, c0⟩ := at_ixB ((unhide HO).below (by have hb := (unhide HT).bel; rw [unhide HB] at hb; exact hb)) cp i hily
          rw [← unhide HQ] at ix1
          have HAD := hide (kAdd ys[i] (unhide HT).s)
          have HNX := hide (adds_take (layB (zerL 3) x 1) ys i hily)
          generalize ys[i] = y at *
          clear hily
          go_wp2_with (first
            | (go_at_call 8; refine (unhide HAD).mono ?_; rintro e X1 ⟨rfl, ha, hs⟩; have HX := hide ((unhide HT).layS (unhide HNE) ha hs); clear ha hs HAD)
            | fail)
          go_roundw
          case rel => exact ⟨i + 1, by omega, by go_num, by rw [unhide HNX]; exact HX⟩
          case measure => simp [intOf]; omega
        · have hii : ¬ (i : Int) < (q : Int) := by omega
          have hiq : i = q := by omega
          have HT0 : Hid (Tw u wr B a g 3 b h 3 (adds (layB (zerL 3) x 1) ys) (layB (zerL 3) x (-1))) := by
            have h1 := unhide HT
            rw [hiq, unhide HQ, List.take_length] at h1
            exact h1
          have htk := kTake x (unhide HT0).s
          rw [adds_lay, lay_back] at htk
          have HTK := hide htk
          have hq1 : wrap64 ((q : Int) - 1) = (q : Int) - 1 := by simp only [wrap64]; omega
          clear htk hiq hlt hi
          go_wp2_with (first
            | (go_at_call 9; refine (unhide HTK).mono ?_; rintro e X2 ⟨rfl, ha, hs⟩; have HX2 := hide ((unhide HT0).layS (unhide HNE) ha hs); clear ha hs HTK)
            | fail)
          clear HT HT0 hii
          go_loopw [18] (fun s18 wv => ∃ i : Nat, i ≤ q ∧ s18 = .int .i64 ((i : Int) - 1) ∧ Hid (Tw u wv B a g 3 b h 3 (adds (zerL 3) (ys.take i)) (layB (zerL 3) x (-1)))) (fun s18 _ => (intOf s18 + 1).toNat)
          case atStart => exact ⟨q, Nat.le_refl _, rfl, by rw [unhide HQ, List.take_length]; exact HX2⟩
          case round =>
            clear HX2
            obtain ⟨i, hi, rfl, HT⟩ := hrel
            cases i with
            | zero =>
              have hp := kPeel a g 3 (zerL 3) [] [] (zerL 3) _ (by have h1 := (unhide HT).s; rw [List.take_zero, adds_nil] at h1; exact h1) (by rw [zerL_len]; exact unhide HP0) (sort_one [] (by decide)) (sort_one [] (by decide))
              rw [zerL_len, decide_eq_true rfl] at hp
              have HPL := hide hp
              have hm1 : ¬ (0 : Int) ≤ ((0 : Nat) : Int) - 1 := by decide
              clear hp
              go_wp2_with (first
                | (go_at_call 11; refine (unhide HPL).mono ?_; rintro e X3 ⟨xo3, cx3, yo3, cy3, rfl, -, -, -, hb⟩; have HB3 := hide ((unhide HT).below hb).bel; clear hb HPL)
                | fail)
              go_ret
              exact ⟨rfl, unhide HB3⟩
            | succ j =>
              have e1 : (((j + 1 : Nat) : Int) - 1) = (j : Int) := by omega
              rw [e1]
              have hjj : (0 : Int) ≤ (j : Int) := by omega
              have hjq : (j : Int) < (q : Int) := by omega
              have hjly : j < ys.length := by rw [← unhide HQ]; omega
              obtain ⟨go, oo, rfl, ix1, c0⟩ := at_ixB ((unhide HO).below (by have hb := (unhide HT).bel; rw [unhide HB] at hb; exact hb)) cp j hjly
              rw [← unhide HQ] at ix1
              have htk := kTake ys[j] (unhide HT).s
              rw [adds_back (zerL 3) ys j hjly] at htk
              have HTK := hide htk
              have hw : wrap64 ((j : Int) - 1) = (j : Int) - 1 := by simp only [wrap64]; omega
              generalize ys[j] = y at *
              clear hjly htk e1
              go_wp2_with (first
                | (go_at_call 9; refine (unhide HTK).mono ?_; rintro e X4 ⟨rfl, ha, hs⟩; have HX := hide ((unhide HT).layS (unhide HNE) ha hs); clear ha hs HTK)
                | fail)
              go_roundw
              case rel => exact ⟨j, by omega, rfl, HX⟩
              case measure => simp [intOf]
end Go.Proofs.Ytopabadnbelegaa.K
