/- Sketches: the walk of Sums. Written by mksku.py. -/
import Derived.Test.YtdmdenbpokmelaaSkt
import Derived.Test.YtdmdenbpokmelaaSgm
namespace Go.Proofs.Ytdmdenbpokmelaa.K
open Go.RowKit Go.Lib
open Go.Proofs.Ytdmdenbpokmelaa.S (Rec En El RE wp_call_fn wp_val)
def conE (n j : Nat) (e : En) : Ce := con n (itB e) 1 j
theorem lay_zip (n : Nat) (f : Nat → Ce) (x : BV) (c : BitVec 16) : layB (zip f (zerL n)) x c = zip (fun j => (f j).add (con n x c j)) (zerL n) := by
  rw [layB_zip, zip_len, zerL_len, zip_zip]
theorem adds_zip (n : Nat) (l : List En) : ∀ f : Nat → Ce, adds (zip f (zerL n)) (l.map itB) = zip (fun j => (f j).add (sumA (conE n j) l)) (zerL n) := by
  induction l with
  | nil => intro f; rw [List.map_nil, adds_nil]; exact congrArg (fun g => zip g (zerL n)) (funext fun j => (Ce.add_zer _).symm)
  | cons y l ih =>
    intro f
    rw [List.map_cons, adds_cons, lay_zip, ih]
    exact congrArg (fun g => zip g (zerL n)) (funext fun j => by rw [sumA_cons, Ce.add_assoc]; rfl)
theorem adds_zer (n : Nat) (l : List En) : adds (zerL n) (l.map itB) = zip (fun j => sumA (conE n j) l) (zerL n) := by
  have h := adds_zip n l (fun _ => .zer)
  rw [zip_zer] at h
  rw [h]
  exact congrArg (fun g => zip g (zerL n)) (funext fun j => Ce.zer_add _)
/-- what is taken -/
def stA (n : Nat) (l m : List En) : List Ce := zip (fun j => (sumD (conE n j) (cnt l) m).neg) (zerL n)
/-- what is added -/
def stB (n : Nat) (l m l' : List En) : List Ce := zip (fun j => (sumD (conE n j) (cnt m) l').add (sumD (conE n j) (cnt l) m).neg) (zerL n)
theorem stA_nil (n : Nat) (l : List En) : stA n l [] = zerL n := by
  unfold stA
  rw [show (fun j => (sumD (conE n j) (cnt l) []).neg) = fun _ => Ce.zer from funext fun j => by rw [sumD, Ce.neg_zer]]
  exact zip_zer _
theorem stA_len (n : Nat) (l m : List En) : (stA n l m).length = n := by unfold stA; rw [zip_len, zerL_len]
theorem stA_yes (n : Nat) (l m : List En) (y : En) (h : cnt l y < cnt (y :: m) y) : stA n l (y :: m) = layB (stA n l m) (itB y) (-1) := by
  unfold stA
  rw [lay_zip]
  exact congrArg (fun g => zip g (zerL n)) (funext fun j => by rw [sumD, if_pos (show cnt l y < @List.count En instBEqOfDecidableEq y (y :: m) from h), Ce.neg_dist, con_neg]; rfl)
theorem stA_no (n : Nat) (l m : List En) (y : En) (h : ¬ cnt l y < cnt (y :: m) y) : stA n l (y :: m) = stA n l m := by
  unfold stA
  exact congrArg (fun g => zip g (zerL n)) (funext fun j => by rw [sumD, if_neg (show ¬ cnt l y < @List.count En instBEqOfDecidableEq y (y :: m) from h)])
theorem stB_nil (n : Nat) (l m : List En) : stB n l m [] = stA n l m := by
  unfold stB stA
  exact congrArg (fun g => zip g (zerL n)) (funext fun j => by rw [sumD, Ce.zer_add])
theorem stB_yes (n : Nat) (l m l' : List En) (y : En) (h : cnt m y < cnt (y :: l') y) : stB n l m (y :: l') = layB (stB n l m l') (itB y) 1 := by
  unfold stB
  rw [lay_zip]
  exact congrArg (fun g => zip g (zerL n)) (funext fun j => by rw [sumD, if_pos (show cnt m y < @List.count En instBEqOfDecidableEq y (y :: l') from h), Ce.add_assoc, Ce.add_assoc, Ce.add_comm (conE n j y)]; rfl)
theorem stB_no (n : Nat) (l m l' : List En) (y : En) (h : ¬ cnt m y < cnt (y :: l') y) : stB n l m (y :: l') = stB n l m l' := by
  unfold stB
  exact congrArg (fun g => zip g (zerL n)) (funext fun j => by rw [sumD, if_neg (show ¬ cnt m y < @List.count En instBEqOfDecidableEq y (y :: l') from h)])
theorem st_all (n : Nat) (l m : List En) : minB (adds (zerL n) (l.map itB)) (adds (zerL n) (m.map itB)) = stB n l m l := by
  rw [adds_zer, adds_zer, minB_zip]
  unfold stB
  exact congrArg (fun g => zip g (zerL n)) (funext fun j => sum_left (conE n j) l m)
theorem mkTw2 {u W6 W7 : World} {B a g n b h d : Nat} {l m : List Ce} (hB : B = u.heap.size) (h1 : Below B u W6) (h2 : Below W6.heap.size W6 W7) (hs : Sk W6 a g n l) (ht : Sk W7 b h d m) (hg : B ≤ g) (hb : W6.heap.size ≤ b) (hh : W6.heap.size ≤ h) : Tw u W7 B a g n b h d l m := by
  subst hB
  obtain ⟨cs, t, hr, _⟩ := hs.row
  have e1 := (Array.getElem?_eq_some_iff.1 hs.box).1
  have e2 := (Array.getElem?_eq_some_iff.1 hr).1
  have e3 := h1.size
  have e4 := h2.size
  exact ⟨hs.below h2, ht, ⟨by omega, by omega, by omega⟩, h1.trans (h2.mono e3), hg, by omega, by omega⟩
theorem entTM : ∀ args (w : World), (callFunc 19 args).run Try.prog w = .ok (.enter 19 args) w := by
  intro args w
  go_simp
theorem drop_at {l : List En} {i : Nat} (h : i < l.length) : l.drop i = l[i] :: l.drop (i + 1) := List.drop_eq_getElem_cons h
set_option maxRecDepth 100000 in
set_option maxHeartbeats 8000000 in
theorem sums16_core (n : Nat) (h3 : 3 ≤ n) (hm : n ≤ 256) (cs : Int) (hcs : (cs = (n : Int)) ∨ ((cs < 3 ∨ 256 < cs) ∧ n = 30)) (l m : List En) (ao bo : Option Addr) (cl cm : Nat) (u : World) (hl : RE.At u l ao cl) (hk : RE.At u m bo cm)
    (hlz : l.length ≤ 1048576) (hmz : m.length ≤ 1048576) (hls : ∀ e ∈ l, e.1.size ≤ 1048576 ∧ e.2.size ≤ 1048576) (hms : ∀ e ∈ m, e.1.size ≤ 1048576 ∧ e.2.size ≤ 1048576) :
    Calls Try.prog 5 #[.slice ao l.length cl, .slice bo m.length cm, .int .i64 cs] u fun e u' => e = .returned (.bool true) ∧ Below u.heap.size u u' := by
  have HW := hide (lWorks u)
  have HKL := hide (fun xo c w => kOf l xo c n h3 hm hls w)
  have HKM := hide (fun xo c w => kOf m xo c n h3 hm hms w)
  have HN := hide (fun w => kNew n h3 hm w)
  have HIL := hide (fun (e : En) (he : e ∈ l) w => kItemB e (hls e he).1 (hls e he).2 w)
  have HIM := hide (fun (e : En) (he : e ∈ m) w => kItemB e (hms e he).1 (hms e he).2 w)
  have HL := hide hl
  have HM := hide hk
  have hmix : Try.prog.follows .mixedOrders = true := by kernel_rfl
  obtain ⟨q, hq⟩ : ∃ q, q = l.length := ⟨_, rfl⟩
  obtain ⟨r, hr⟩ : ∃ r, r = m.length := ⟨_, rfl⟩
  have hqm : (q : Int) ≤ 1048576 := by omega
  have hrm : (r : Int) ≤ 1048576 := by omega
  have HZL : Hid ((([] : List En).length + l.length) * 32 ≤ 140737488355328) := by show (0 + l.length) * 32 ≤ _; omega
  have HZM : Hid ((([] : List En).length + m.length) * 32 ≤ 140737488355328) := by show (0 + m.length) * 32 ≤ _; omega
  have HQ := hide hq
  have HR := hide hr
  rw [← hq, ← hr]
  obtain ⟨B, hB⟩ : ∃ B, B = u.heap.size := ⟨_, rfl⟩
  rw [← hB] at HW ⊢
  have HB := hide hB
  clear hl hk hlz hmz hls hms hq hr hB
  rcases hcs with rfl | ⟨hc, rfl⟩
  · as_aux_lemma =>
    have hlo : ¬ (n : Int) < 3 := by have := h3; omega
    have hhi : ¬ (n : Int) > 256 := by have := hm; omega
    have hn6 : (n : Int) ≤ 256 := by omega
    clear h3 hm
    have hr1 : wrap64 ((r : Int) - 1) = (r : Int) - 1 := by simp only [wrap64]; omega
    have hq1 : wrap64 ((q : Int) - 1) = (q : Int) - 1 := by simp only [wrap64]; omega
    go_enter Try.func5, Try.ntmps5
    go_wp2_with (first
      | (go_at_call 17; refine (unhide HW).mono ?_; rintro e W1 ⟨rfl, hb⟩; have HB1 := hide hb; have HO1 := hide (S.Own.empty W1 W1.heap.size (Nat.le_refl _)); have HU1 : Hid (Below u.heap.size u W1) := (by have h := hb; rw [unhide HB] at h; exact h); have HA1 := hide (((unhide HL).below (unhide HU1)).below ((Below.refl W1.heap.size W1).alloc (Nat.le_refl _) (.cells #[] 36))); have HS1 : Hid (W1.heap.size ≤ (W1.alloc (.cells #[] 36)).heap.size) := (by show _ ≤ _; rw [World.size_alloc]; omega); have HE1 := hide ((Below.refl W1.heap.size W1).alloc (Nat.le_refl _) (.cells #[] 36)); clear hb HW)
      | (at_builtin; (with_reducible refine S.wpList_putE (by rfl) (.tmp 26) (.tmp 27) (by rfl) (some 28) (by rfl) W1.heap.size [] l 0 q rfl (unhide HQ) (some ⟨W1.heap.size, 0, none⟩) ao 0 cl (by with_unfolding_all rfl) (by with_unfolding_all rfl) (unhide HO1) (unhide HA1) (unhide HZL) (unhide HS1) ?_); intro x2 n2 c2 W2 HP2; simp only [Act.put, List.setIfInBounds_toArray, List.set_cons_zero, List.set_cons_succ]; have hn2 : q = n2 := ((unhide HP2).len.trans (unhide HQ).symm).symm; subst hn2; have HB2 := hide ((unhide HB1).trans (((unhide HE1).trans (unhide HP2).below).mono (by rw [unhide HB]; exact (unhide HB1).size))); have hof := unhide HKL x2 c2 W2 ((unhide HP2).own.at (by have := unhide HQ; show l.length ≤ _; omega)); rw [← unhide HQ] at hof; have HOF := hide hof; clear hof HO1 HA1 HS1 HE1)
      | (go_at_call 18; refine (unhide HOF).mono ?_; rintro e W3 ⟨a1, g1, rfl, hs, hb, h1, h2⟩; have HS3 := hide hs; have HB3 := hide ((unhide HB2).trans (hb.mono (by rw [unhide HB]; exact (unhide HB2).size))); have HO3 := hide (S.Own.empty W3 W3.heap.size (Nat.le_refl _)); have HU3 : Hid (Below u.heap.size u W3) := (by have h := unhide HB3; rw [unhide HB] at h; exact h); have HA3 := hide (((unhide HM).below (unhide HU3)).below ((Below.refl W3.heap.size W3).alloc (Nat.le_refl _) (.cells #[] 36))); have HZ3 : Hid (W3.heap.size ≤ (W3.alloc (.cells #[] 36)).heap.size) := (by show _ ≤ _; rw [World.size_alloc]; omega); have HE3 := hide ((Below.refl W3.heap.size W3).alloc (Nat.le_refl _) (.cells #[] 36)); clear hs hb h1 h2 HOF)
      | (at_builtin; (with_reducible refine S.wpList_putE (by rfl) (.tmp 34) (.tmp 35) (by rfl) (some 36) (by rfl) W3.heap.size [] m 0 r rfl (unhide HR) (some ⟨W3.heap.size, 0, none⟩) bo 0 cm (by with_unfolding_all rfl) (by with_unfolding_all rfl) (unhide HO3) (unhide HA3) (unhide HZM) (unhide HZ3) ?_); intro x4 n4 c4 W4 HP4; simp only [Act.put, List.setIfInBounds_toArray, List.set_cons_zero, List.set_cons_succ]; have hn4 : r = n4 := ((unhide HP4).len.trans (unhide HR).symm).symm; subst hn4; have HE4 := hide ((unhide HE3).trans (unhide HP4).below); have HB4 := hide ((unhide HB3).trans ((unhide HE4).mono (by rw [unhide HB]; exact (unhide HB3).size))); have HS4 := hide ((unhide HS3).below (unhide HE4)); have hof := unhide HKM x4 c4 W4 ((unhide HP4).own.at (by have := unhide HR; show m.length ≤ _; omega)); rw [← unhide HR] at hof; have HOG := hide hof; clear hof HO3 HA3 HZ3 HE3)
      | (go_at_call 18; refine (unhide HOG).mono ?_; rintro e W5 ⟨a2, g2, rfl, hs, hb, h1, h2⟩; have HT5 := hide hs; have HS5 := hide ((unhide HS4).below hb); have HB5 := hide ((unhide HB4).trans (hb.mono (by rw [unhide HB]; exact (unhide HB4).size))); have HN5 := hide (unhide HN W5); clear hs hb h1 h2 HOG)
      | (go_at_call 12; refine (unhide HN5).mono ?_; rintro e W6 ⟨a6, g6, rfl, hs, hb, h1, h2⟩; have HD6 := hide hs; have HB6 := hide ((unhide HB5).trans (hb.mono (by rw [unhide HB]; exact (unhide HB5).size))); have HG6 : Hid (B ≤ g6) := Nat.le_trans (by rw [unhide HB]; exact (unhide HB5).size) h2; have HMI := hide (kMinus a1 g1 n a2 g2 n _ _ W6 ((unhide HS5).below hb) ((unhide HT5).below hb) (by rw [adds_len, adds_len])); clear hs hb h1 h2 HN5)
      | (go_at_call 10; refine (unhide HMI).mono ?_; rintro e W7 ⟨a3, g3, c3, rfl, hs, hb, h1, h2⟩; rw [st_all] at hs; have HTS := hide (mkTw2 (unhide HB) (unhide HB6) hb (unhide HD6) hs (unhide HG6) h1 h2); have HNE := hide (twNe (unhide HD6) h2); clear hs hb h1 h2 HMI)
      | fail)
    clear HD6 HB6 HG6 HT5 HS5 HB5 HB4 HE4 HS4 HB3 HS3 HU3 HB2 HB1 HU1 HKL HKM HN HZL HZM HP2 HP4 hr1
    rw [← stA_nil n l] at HTS
    obtain ⟨MB, hMB⟩ : ∃ MB, MB = stB n l m l := ⟨_, rfl⟩
    rw [← hMB] at HTS
    have HMB := hide hMB
    clear hMB
    go_loopw [15] (fun sk wr => ∃ i : Nat, i ≤ r ∧ sk = .int .i64 ((i : Int) - 1) ∧ Hid (Tw u wr B a6 g6 n a3 g3 c3 (stA n l (m.drop i)) MB)) (fun sk _ => (intOf sk + 1).toNat)
    case atStart => exact ⟨r, Nat.le_refl _, rfl, by rw [show m.drop r = [] by rw [unhide HR, List.drop_length]]; exact HTS⟩
    case round =>
      clear HTS
      obtain ⟨i, hi, rfl, HT⟩ := hrel
      cases i with
      | zero =>
        rw [List.drop_zero] at HT
        have hm1 : ¬ (0 : Int) ≤ ((0 : Nat) : Int) - 1 := by decide
        go_wp2
        clear hm1
        have HTS := HT
        rw [← stB_nil] at HTS
        clear HT
        go_loopw [16] (fun sk wr => ∃ i : Nat, i ≤ q ∧ sk = .int .i64 ((i : Int) - 1) ∧ Hid (Tw u wr B a6 g6 n a3 g3 c3 (stB n l m (l.drop i)) MB)) (fun sk _ => (intOf sk + 1).toNat)
        case atStart => exact ⟨q, Nat.le_refl _, rfl, by rw [show l.drop q = [] by rw [unhide HQ, List.drop_length]]; exact HTS⟩
        case round =>
          clear HTS
          obtain ⟨i, hi, rfl, HT⟩ := hrel
          cases i with
          | zero =>
            rw [List.drop_zero] at HT
            have hm1 : ¬ (0 : Int) ≤ ((0 : Nat) : Int) - 1 := by decide
            have hcu := kCells (unhide HT).t
            have HLU : Hid (MB.length = n) := (by show _ = _; rw [unhide HMB]; unfold stB; rw [zip_len, zerL_len])
            have HCU := hide hcu
            clear hcu
            go_wp2_with (first
              | (go_at_call 13; refine (unhide HCU).mono ?_; rintro e Y1 ⟨xo, cx, rfl, ho, hb⟩; have HY1 := hide ho; have HT1 := hide ((unhide HT).below hb); have HCD := hide (kCells (unhide HT1).s); clear ho hb HCU)
              | (go_at_call 13; refine (unhide HCD).mono ?_; rintro e Y2 ⟨yo, cy, rfl, ho, hb⟩; have hsm := lSameC _ _ xo yo cx cy Y2 (((unhide HY1).below hb).at (by rw [unhide HLU]; omega)) (ho.at (by rw [← unhide HMB, unhide HLU]; omega)); rw [decide_eq_true (unhide HMB)] at hsm; have HSM := hide hsm; have HT2 := hide ((unhide HT1).below hb); clear ho hb hsm HCD)
              | (go_at_call 20; refine (unhide HSM).mono ?_; rintro e Y3 ⟨rfl, z, hz⟩; have HB9 : Hid (Below B u Y3) := (by rw [hz]; exact S.belowDrewN (unhide HT2).bel z); clear hz HSM)
              | fail)
            go_ret
            exact ⟨rfl, unhide HB9⟩
          | succ j =>
            have e1 : (((j + 1 : Nat) : Int) - 1) = (j : Int) := by omega
            rw [e1]
            have hjj : (0 : Int) ≤ (j : Int) := by omega
            have hjq : (j : Int) < (q : Int) := by omega
            have hjl : j < l.length := by rw [← unhide HQ]; omega
            have hw : wrap64 ((j : Int) - 1) = (j : Int) - 1 := by simp only [wrap64]; omega
            have HDR := hide (drop_at hjl)
            have HIT := hide (fun w => unhide HIL l[j] (List.getElem_mem hjl) w)
            have HBX : Hid (Below u.heap.size u wr.drew) := by have hb := S.belowDrew (unhide HT).bel; rw [unhide HB] at hb; exact hb
            have HTX := hide ((unhide HT).below (S.belowDrew (Below.refl _ _)))
            obtain ⟨tl, kl, dl, HSL, HKL2, HTA⟩ : ∃ tl kl dl, Hid (∀ W : World, (Instr.slice 40 (.slice ao q cl) (some (.int .i64 (j : Int))) none none).run Try.prog W = .ok (.slice tl kl dl) W) ∧ Hid (kl = (l.drop j).length) ∧ Hid (∀ G, Below wr.drew.heap.size wr.drew G → RE.At G (l.drop j) tl dl) := by
              have h := fun G (hG : Below wr.drew.heap.size wr.drew G) => S.Rec.tail RE (((unhide HL).below (unhide HBX)).below hG) j (by omega)
              have h2 := (h wr.drew (Below.refl _ _)).2
              rw [← unhide HQ] at h2
              exact ⟨_, _, _, h2, by show _ = _; rw [List.length_drop, ← unhide HQ], fun G hG => (h G hG).1⟩
            obtain ⟨g5, o5, hxo, ix1, a0, a1⟩ := at_ixE ((unhide HL).below (unhide HBX)) j hjl
            rw [← unhide HQ] at ix1
            have HCL : Hid (∀ G, Below wr.drew.heap.size wr.drew G → G.cell? ⟨g5, o5 + j * 2, none⟩ = some (.string l[j].1) ∧ G.cell? ⟨g5, o5 + j * 2 + 1, none⟩ = some (.string l[j].2)) := fun G hG => by
              obtain ⟨g9, o9, h9, -, b0, b1⟩ := at_ixE (((unhide HL).below (unhide HBX)).below hG) j hjl
              rw [hxo] at h9
              cases h9
              exact ⟨b0, b1⟩
            have hT1 := fun G hG => lTimes (l.drop j) tl dl l[j] G (unhide HTA G hG)
            rw [← unhide HKL2] at hT1
            have hT2 := fun G (hG : Below wr.drew.heap.size wr.drew G) => lTimes m bo cm l[j] G (((unhide HM).below (unhide HBX)).below hG)
            rw [← unhide HR] at hT2
            have HYE := hide (fun hh => stB_yes n l m (l.drop (j + 1)) (l[j]'hjl) hh)
            have HNO := hide (fun hh => stB_no n l m (l.drop (j + 1)) (l[j]'hjl) hh)
            rw [unhide HDR] at hT1
            generalize l[j] = y at *
            rw [← unhide HDR] at hT1 HYE HNO
            obtain ⟨v1, hv1⟩ : ∃ v1, v1 = cnt (l.drop j) y := ⟨_, rfl⟩
            obtain ⟨v2, hv2⟩ : ∃ v2, v2 = cnt m y := ⟨_, rfl⟩
            rw [← hv1] at hT1 HYE HNO
            rw [← hv2] at hT2 HYE HNO
            have HT1 := hide hT1
            have HT2 := hide hT2
            obtain ⟨y1, y2⟩ := y
            replace HIT : Hid (∀ w, Calls Try.prog 14 #[.agg #[.string y1, .string y2]] w fun e u' => e = .returned (.int .u64 (itB (y1, y2)).toNat) ∧ Below w.heap.size w u') := HIT
            clear hT1 hT2 hv1 hv2 hjl hxo a0 a1 HDR HTA HKL2 e1
            generalize itB (y1, y2) = x at *
            have HBW := hide (unhide HT).bel
            clear HBW
            obtain ⟨bb, hbb⟩ : ∃ bb : Bool, bb = decide ((v2 : Int) < (v1 : Int)) := ⟨_, rfl⟩
            have HBB := hide hbb
            by_cases hv : v2 < v1
            · have hvi : (v1 : Int) > (v2 : Int) := by omega
              obtain rfl : bb = true := by rw [hbb]; exact decide_eq_true hvi
              have HNX := hide (unhide HYE hv)
              clear hbb hv HYE HNO HBB
              go_wp2
              refine wp_region_last (fun G => Below wr.drew.heap.size wr.drew G) 14 hmix (Below.refl _ _) fun hS => ?_
              generalize wr.drew = X at *
              refine wpAnyL_take 0 112 (.slice ao q cl) [2, 7] rfl rfl (by kernel_rfl) (by kernel_rfl) (by kernel_rfl) (by kernel_rfl) (by kernel_rfl) (fun _ _ _ h => h) (by rfl) (fun _ _ => by go_simp) hS ?_
              simp only [Act.put, List.setIfInBounds_toArray, List.set_cons_zero, List.set_cons_succ]
              refine wpAnyL_take 1 113 (.int .i64 (j : Int)) [2, 7] rfl rfl (by kernel_rfl) (by kernel_rfl) (by kernel_rfl) (by kernel_rfl) (by kernel_rfl) (fun _ _ _ h => h) (by rfl) (fun _ _ => by go_simp) hS ?_
              simp only [Act.put, List.setIfInBounds_toArray, List.set_cons_zero, List.set_cons_succ]
              refine wpAnyL_take 2 114 (.slice tl kl dl) [7] rfl rfl (by kernel_rfl) (by kernel_rfl) (by kernel_rfl) (by kernel_rfl) (by kernel_rfl) (fun _ _ _ h => h) (by rfl) (fun G _ => by have h := unhide HSL G; go_simp) hS ?_
              simp only [Act.put, List.setIfInBounds_toArray, List.set_cons_zero, List.set_cons_succ]
              refine wpAnyL_take 3 115 (.slice ao q cl) [5, 6, 7] rfl rfl (by kernel_rfl) (by kernel_rfl) (by kernel_rfl) (by kernel_rfl) (by kernel_rfl) (fun _ _ _ h => h) (by rfl) (fun _ _ => by go_simp) hS ?_
              simp only [Act.put, List.setIfInBounds_toArray, List.set_cons_zero, List.set_cons_succ]
              refine wpAnyL_take 4 116 (.int .i64 (j : Int)) [5, 6, 7] rfl rfl (by kernel_rfl) (by kernel_rfl) (by kernel_rfl) (by kernel_rfl) (by kernel_rfl) (fun _ _ _ h => h) (by rfl) (fun _ _ => by go_simp) hS ?_
              simp only [Act.put, List.setIfInBounds_toArray, List.set_cons_zero, List.set_cons_succ]
              refine wpAnyL_take 5 117 (.pointer (some ⟨g5, o5 + j * 2, none⟩)) [6, 7] rfl rfl (by kernel_rfl) (by kernel_rfl) (by kernel_rfl) (by kernel_rfl) (by kernel_rfl) (fun _ _ _ h => h) (by rfl) (fun _ _ => by go_simp) hS ?_
              simp only [Act.put, List.setIfInBounds_toArray, List.set_cons_zero, List.set_cons_succ]
              refine wpAnyL_take 6 118 (.agg #[.string y1, .string y2]) [7] rfl rfl (by kernel_rfl) (by kernel_rfl) (by kernel_rfl) (by kernel_rfl) (by kernel_rfl) (fun _ _ _ h => h) (by rfl) (fun G hG => by obtain ⟨e0, e1⟩ := unhide HCL G hG; go_simp) hS ?_
              simp only [Act.put, List.setIfInBounds_toArray, List.set_cons_zero, List.set_cons_succ]
              refine wpAnyL_take 8 120 (.slice bo r cm) [13] rfl rfl (by kernel_rfl) (by kernel_rfl) (by kernel_rfl) (by kernel_rfl) (by kernel_rfl) (fun _ _ _ h => h) (by rfl) (fun _ _ => by go_simp) hS ?_
              simp only [Act.put, List.setIfInBounds_toArray, List.set_cons_zero, List.set_cons_succ]
              refine wpAnyL_take 9 121 (.slice ao q cl) [11, 12, 13] rfl rfl (by kernel_rfl) (by kernel_rfl) (by kernel_rfl) (by kernel_rfl) (by kernel_rfl) (fun _ _ _ h => h) (by rfl) (fun _ _ => by go_simp) hS ?_
              simp only [Act.put, List.setIfInBounds_toArray, List.set_cons_zero, List.set_cons_succ]
              refine wpAnyL_take 10 122 (.int .i64 (j : Int)) [11, 12, 13] rfl rfl (by kernel_rfl) (by kernel_rfl) (by kernel_rfl) (by kernel_rfl) (by kernel_rfl) (fun _ _ _ h => h) (by rfl) (fun _ _ => by go_simp) hS ?_
              simp only [Act.put, List.setIfInBounds_toArray, List.set_cons_zero, List.set_cons_succ]
              refine wpAnyL_take 11 123 (.pointer (some ⟨g5, o5 + j * 2, none⟩)) [12, 13] rfl rfl (by kernel_rfl) (by kernel_rfl) (by kernel_rfl) (by kernel_rfl) (by kernel_rfl) (fun _ _ _ h => h) (by rfl) (fun _ _ => by go_simp) hS ?_
              simp only [Act.put, List.setIfInBounds_toArray, List.set_cons_zero, List.set_cons_succ]
              refine wpAnyL_take 12 124 (.agg #[.string y1, .string y2]) [13] rfl rfl (by kernel_rfl) (by kernel_rfl) (by kernel_rfl) (by kernel_rfl) (by kernel_rfl) (fun _ _ _ h => h) (by rfl) (fun G hG => by obtain ⟨e0, e1⟩ := unhide HCL G hG; go_simp) hS ?_
              simp only [Act.put, List.setIfInBounds_toArray, List.set_cons_zero, List.set_cons_succ]
              refine wpAnyL_one (i := 7) (by kernel_rfl) rfl (by rfl) fun K hK => ?_
              refine wp_call_fn 19 _ _ (by rfl) #[.slice tl kl dl, .agg #[.string y1, .string y2]] (by with_unfolding_all rfl) entTM (some 119) (by rfl) _ (asC (unhide HT1 X hS)) ?_
              rintro _ X1 ⟨rfl, hb⟩
              have HS1 : Hid (Below X.heap.size X X1) := (hS : Below X.heap.size X X).trans (hb.mono (Nat.le_refl _))
              clear hb
              refine hK _ _ (fun _ => (unhide HS1)) ?_
              clear hK K
              simp only [Act.put, List.setIfInBounds_toArray, List.set_cons_zero, List.set_cons_succ]
              refine wpAnyL_one (i := 13) (by kernel_rfl) rfl (by rfl) fun K hK => ?_
              refine wp_call_fn 19 _ _ (by rfl) #[.slice bo r cm, .agg #[.string y1, .string y2]] (by with_unfolding_all rfl) entTM (some 125) (by rfl) _ (asC (unhide HT2 X1 (unhide HS1))) ?_
              rintro _ X2 ⟨rfl, hb⟩
              have HS2 : Hid (Below X.heap.size X X2) := (unhide HS1).trans (hb.mono (unhide HS1).size)
              clear hb
              refine hK _ _ (fun _ => (unhide HS2)) ?_
              clear hK K
              simp only [Act.put, List.setIfInBounds_toArray, List.set_cons_zero, List.set_cons_succ]
              refine wpAnyL_one (i := 14) (by kernel_rfl) rfl (by rfl) fun K hK => ?_
              refine wp_val (.bool true) (by go_simp) (some 126) (by rfl) ?_
              refine hK _ _ (fun _ => (unhide HS2)) ?_
              clear hK K
              simp only [Act.put, List.setIfInBounds_toArray, List.set_cons_zero, List.set_cons_succ]
              refine wpAnyL_done (by kernel_rfl) ?_ _
              generalize X2 = X3 at *
              have HT3 := hide ((unhide HTX).below (unhide HS2))
              obtain ⟨g8, o8, hxo8, ix8, b0, b1⟩ : ∃ g8 o8, some (⟨g5, o5, none⟩ : Addr) = some ⟨g8, o8, none⟩ ∧ True ∧ X3.cell? ⟨g5, o5 + j * 2, none⟩ = some (.string y1) ∧ X3.cell? ⟨g5, o5 + j * 2 + 1, none⟩ = some (.string y2) := ⟨g5, o5, rfl, trivial, (unhide HCL X3 (unhide HS2)).1, (unhide HCL X3 (unhide HS2)).2⟩
              clear hxo8 ix8 HCL HT1 HT2 HSL
              go_wp2_with (first
                | (go_at_call 14; refine (unhide HIT _).mono ?_; rintro e X4 ⟨rfl, hb⟩; have HT4 := hide ((unhide HT3).below hb); have HAD := hide (kAdd x (unhide HT4).s); clear hb HIT)
                | (go_at_call 8; refine (unhide HAD).mono ?_; rintro e X5 ⟨rfl, ha, hs⟩; have HT5 := hide ((unhide HT4).layS (unhide HNE) ha hs); clear ha hs HAD)
                | fail)
              go_roundw
              case rel => exact ⟨j, by omega, rfl, by rw [unhide HNX]; exact HT5⟩
              case measure => simp [intOf]
            · have hvi : ¬ (v1 : Int) > (v2 : Int) := by omega
              have hvn : v1 ≤ v2 := by omega
              obtain rfl : bb = false := by rw [hbb]; exact decide_eq_false (by omega)
              have HNX := hide (unhide HNO hv)
              clear hbb hv HYE HNO HBB
              go_wp2
              refine wp_region_last (fun G => Below wr.drew.heap.size wr.drew G) 14 hmix (Below.refl _ _) fun hS => ?_
              generalize wr.drew = X at *
              refine wpAnyL_take 0 112 (.slice ao q cl) [2, 7] rfl rfl (by kernel_rfl) (by kernel_rfl) (by kernel_rfl) (by kernel_rfl) (by kernel_rfl) (fun _ _ _ h => h) (by rfl) (fun _ _ => by go_simp) hS ?_
              simp only [Act.put, List.setIfInBounds_toArray, List.set_cons_zero, List.set_cons_succ]
              refine wpAnyL_take 1 113 (.int .i64 (j : Int)) [2, 7] rfl rfl (by kernel_rfl) (by kernel_rfl) (by kernel_rfl) (by kernel_rfl) (by kernel_rfl) (fun _ _ _ h => h) (by rfl) (fun _ _ => by go_simp) hS ?_
              simp only [Act.put, List.setIfInBounds_toArray, List.set_cons_zero, List.set_cons_succ]
              refine wpAnyL_take 2 114 (.slice tl kl dl) [7] rfl rfl (by kernel_rfl) (by kernel_rfl) (by kernel_rfl) (by kernel_rfl) (by kernel_rfl) (fun _ _ _ h => h) (by rfl) (fun G _ => by have h := unhide HSL G; go_simp) hS ?_
              simp only [Act.put, List.setIfInBounds_toArray, List.set_cons_zero, List.set_cons_succ]
              refine wpAnyL_take 3 115 (.slice ao q cl) [5, 6, 7] rfl rfl (by kernel_rfl) (by kernel_rfl) (by kernel_rfl) (by kernel_rfl) (by kernel_rfl) (fun _ _ _ h => h) (by rfl) (fun _ _ => by go_simp) hS ?_
              simp only [Act.put, List.setIfInBounds_toArray, List.set_cons_zero, List.set_cons_succ]
              refine wpAnyL_take 4 116 (.int .i64 (j : Int)) [5, 6, 7] rfl rfl (by kernel_rfl) (by kernel_rfl) (by kernel_rfl) (by kernel_rfl) (by kernel_rfl) (fun _ _ _ h => h) (by rfl) (fun _ _ => by go_simp) hS ?_
              simp only [Act.put, List.setIfInBounds_toArray, List.set_cons_zero, List.set_cons_succ]
              refine wpAnyL_take 5 117 (.pointer (some ⟨g5, o5 + j * 2, none⟩)) [6, 7] rfl rfl (by kernel_rfl) (by kernel_rfl) (by kernel_rfl) (by kernel_rfl) (by kernel_rfl) (fun _ _ _ h => h) (by rfl) (fun _ _ => by go_simp) hS ?_
              simp only [Act.put, List.setIfInBounds_toArray, List.set_cons_zero, List.set_cons_succ]
              refine wpAnyL_take 6 118 (.agg #[.string y1, .string y2]) [7] rfl rfl (by kernel_rfl) (by kernel_rfl) (by kernel_rfl) (by kernel_rfl) (by kernel_rfl) (fun _ _ _ h => h) (by rfl) (fun G hG => by obtain ⟨e0, e1⟩ := unhide HCL G hG; go_simp) hS ?_
              simp only [Act.put, List.setIfInBounds_toArray, List.set_cons_zero, List.set_cons_succ]
              refine wpAnyL_take 8 120 (.slice bo r cm) [13] rfl rfl (by kernel_rfl) (by kernel_rfl) (by kernel_rfl) (by kernel_rfl) (by kernel_rfl) (fun _ _ _ h => h) (by rfl) (fun _ _ => by go_simp) hS ?_
              simp only [Act.put, List.setIfInBounds_toArray, List.set_cons_zero, List.set_cons_succ]
              refine wpAnyL_take 9 121 (.slice ao q cl) [11, 12, 13] rfl rfl (by kernel_rfl) (by kernel_rfl) (by kernel_rfl) (by kernel_rfl) (by kernel_rfl) (fun _ _ _ h => h) (by rfl) (fun _ _ => by go_simp) hS ?_
              simp only [Act.put, List.setIfInBounds_toArray, List.set_cons_zero, List.set_cons_succ]
              refine wpAnyL_take 10 122 (.int .i64 (j : Int)) [11, 12, 13] rfl rfl (by kernel_rfl) (by kernel_rfl) (by kernel_rfl) (by kernel_rfl) (by kernel_rfl) (fun _ _ _ h => h) (by rfl) (fun _ _ => by go_simp) hS ?_
              simp only [Act.put, List.setIfInBounds_toArray, List.set_cons_zero, List.set_cons_succ]
              refine wpAnyL_take 11 123 (.pointer (some ⟨g5, o5 + j * 2, none⟩)) [12, 13] rfl rfl (by kernel_rfl) (by kernel_rfl) (by kernel_rfl) (by kernel_rfl) (by kernel_rfl) (fun _ _ _ h => h) (by rfl) (fun _ _ => by go_simp) hS ?_
              simp only [Act.put, List.setIfInBounds_toArray, List.set_cons_zero, List.set_cons_succ]
              refine wpAnyL_take 12 124 (.agg #[.string y1, .string y2]) [13] rfl rfl (by kernel_rfl) (by kernel_rfl) (by kernel_rfl) (by kernel_rfl) (by kernel_rfl) (fun _ _ _ h => h) (by rfl) (fun G hG => by obtain ⟨e0, e1⟩ := unhide HCL G hG; go_simp) hS ?_
              simp only [Act.put, List.setIfInBounds_toArray, List.set_cons_zero, List.set_cons_succ]
              refine wpAnyL_one (i := 7) (by kernel_rfl) rfl (by rfl) fun K hK => ?_
              refine wp_call_fn 19 _ _ (by rfl) #[.slice tl kl dl, .agg #[.string y1, .string y2]] (by with_unfolding_all rfl) entTM (some 119) (by rfl) _ (asC (unhide HT1 X hS)) ?_
              rintro _ X1 ⟨rfl, hb⟩
              have HS1 : Hid (Below X.heap.size X X1) := (hS : Below X.heap.size X X).trans (hb.mono (Nat.le_refl _))
              clear hb
              refine hK _ _ (fun _ => (unhide HS1)) ?_
              clear hK K
              simp only [Act.put, List.setIfInBounds_toArray, List.set_cons_zero, List.set_cons_succ]
              refine wpAnyL_one (i := 13) (by kernel_rfl) rfl (by rfl) fun K hK => ?_
              refine wp_call_fn 19 _ _ (by rfl) #[.slice bo r cm, .agg #[.string y1, .string y2]] (by with_unfolding_all rfl) entTM (some 125) (by rfl) _ (asC (unhide HT2 X1 (unhide HS1))) ?_
              rintro _ X2 ⟨rfl, hb⟩
              have HS2 : Hid (Below X.heap.size X X2) := (unhide HS1).trans (hb.mono (unhide HS1).size)
              clear hb
              refine hK _ _ (fun _ => (unhide HS2)) ?_
              clear hK K
              simp only [Act.put, List.setIfInBounds_toArray, List.set_cons_zero, List.set_cons_succ]
              refine wpAnyL_one (i := 14) (by kernel_rfl) rfl (by rfl) fun K hK => ?_
              refine wp_val (.bool false) (by go_simp) (some 126) (by rfl) ?_
              refine hK _ _ (fun _ => (unhide HS2)) ?_
              clear hK K
              simp only [Act.put, List.setIfInBounds_toArray, List.set_cons_zero, List.set_cons_succ]
              refine wpAnyL_done (by kernel_rfl) ?_ _
              have HT3 := hide ((unhide HTX).below (unhide HS2))
              clear HCL HT1 HT2 HSL
              go_wp2
              go_roundw
              case rel => exact ⟨j, by omega, rfl, by rw [unhide HNX]; exact HT3⟩
              case measure => simp [intOf]
      | succ j =>
        have e1 : (((j + 1 : Nat) : Int) - 1) = (j : Int) := by omega
        rw [e1]
        have hjj : (0 : Int) ≤ (j : Int) := by omega
        have hjq : (j : Int) < (r : Int) := by omega
        have hjl : j < m.length := by rw [← unhide HR]; omega
        have hw : wrap64 ((j : Int) - 1) = (j : Int) - 1 := by simp only [wrap64]; omega
        have HDR := hide (drop_at hjl)
        have HIT := hide (fun w => unhide HIM m[j] (List.getElem_mem hjl) w)
        have HBX : Hid (Below u.heap.size u wr.drew) := by have hb := S.belowDrew (unhide HT).bel; rw [unhide HB] at hb; exact hb
        have HTX := hide ((unhide HT).below (S.belowDrew (Below.refl _ _)))
        obtain ⟨tl, kl, dl, HSL, HKL2, HTA⟩ : ∃ tl kl dl, Hid (∀ W : World, (Instr.slice 40 (.slice bo r cm) (some (.int .i64 (j : Int))) none none).run Try.prog W = .ok (.slice tl kl dl) W) ∧ Hid (kl = (m.drop j).length) ∧ Hid (∀ G, Below wr.drew.heap.size wr.drew G → RE.At G (m.drop j) tl dl) := by
          have h := fun G (hG : Below wr.drew.heap.size wr.drew G) => S.Rec.tail RE (((unhide HM).below (unhide HBX)).below hG) j (by omega)
          have h2 := (h wr.drew (Below.refl _ _)).2
          rw [← unhide HR] at h2
          exact ⟨_, _, _, h2, by show _ = _; rw [List.length_drop, ← unhide HR], fun G hG => (h G hG).1⟩
        obtain ⟨g5, o5, hxo, ix1, a0, a1⟩ := at_ixE ((unhide HM).below (unhide HBX)) j hjl
        rw [← unhide HR] at ix1
        have HCL : Hid (∀ G, Below wr.drew.heap.size wr.drew G → G.cell? ⟨g5, o5 + j * 2, none⟩ = some (.string m[j].1) ∧ G.cell? ⟨g5, o5 + j * 2 + 1, none⟩ = some (.string m[j].2)) := fun G hG => by
          obtain ⟨g9, o9, h9, -, b0, b1⟩ := at_ixE (((unhide HM).below (unhide HBX)).below hG) j hjl
          rw [hxo] at h9
          cases h9
          exact ⟨b0, b1⟩
        have hT1 := fun G hG => lTimes (m.drop j) tl dl m[j] G (unhide HTA G hG)
        rw [← unhide HKL2] at hT1
        have hT2 := fun G (hG : Below wr.drew.heap.size wr.drew G) => lTimes l ao cl m[j] G (((unhide HL).below (unhide HBX)).below hG)
        rw [← unhide HQ] at hT2
        have HYE := hide (fun hh => stA_yes n l (m.drop (j + 1)) (m[j]'hjl) hh)
        have HNO := hide (fun hh => stA_no n l (m.drop (j + 1)) (m[j]'hjl) hh)
        rw [unhide HDR] at hT1
        generalize m[j] = y at *
        rw [← unhide HDR] at hT1 HYE HNO
        obtain ⟨v1, hv1⟩ : ∃ v1, v1 = cnt (m.drop j) y := ⟨_, rfl⟩
        obtain ⟨v2, hv2⟩ : ∃ v2, v2 = cnt l y := ⟨_, rfl⟩
        rw [← hv1] at hT1 HYE HNO
        rw [← hv2] at hT2 HYE HNO
        have HT1 := hide hT1
        have HT2 := hide hT2
        obtain ⟨y1, y2⟩ := y
        replace HIT : Hid (∀ w, Calls Try.prog 14 #[.agg #[.string y1, .string y2]] w fun e u' => e = .returned (.int .u64 (itB (y1, y2)).toNat) ∧ Below w.heap.size w u') := HIT
        clear hT1 hT2 hv1 hv2 hjl hxo a0 a1 HDR HTA HKL2 e1
        generalize itB (y1, y2) = x at *
        have HBW := hide (unhide HT).bel
        clear HBW
        obtain ⟨bb, hbb⟩ : ∃ bb : Bool, bb = decide ((v2 : Int) < (v1 : Int)) := ⟨_, rfl⟩
        have HBB := hide hbb
        by_cases hv : v2 < v1
        · have hvi : (v1 : Int) > (v2 : Int) := by omega
          obtain rfl : bb = true := by rw [hbb]; exact decide_eq_true hvi
          have HNX := hide (unhide HYE hv)
          clear hbb hv HYE HNO HBB
          go_wp2
          refine wp_region_last (fun G => Below wr.drew.heap.size wr.drew G) 14 hmix (Below.refl _ _) fun hS => ?_
          generalize wr.drew = X at *
          refine wpAnyL_take 0 83 (.slice bo r cm) [2, 7] rfl rfl (by kernel_rfl) (by kernel_rfl) (by kernel_rfl) (by kernel_rfl) (by kernel_rfl) (fun _ _ _ h => h) (by rfl) (fun _ _ => by go_simp) hS ?_
          simp only [Act.put, List.setIfInBounds_toArray, List.set_cons_zero, List.set_cons_succ]
          refine wpAnyL_take 1 84 (.int .i64 (j : Int)) [2, 7] rfl rfl (by kernel_rfl) (by kernel_rfl) (by kernel_rfl) (by kernel_rfl) (by kernel_rfl) (fun _ _ _ h => h) (by rfl) (fun _ _ => by go_simp) hS ?_
          simp only [Act.put, List.setIfInBounds_toArray, List.set_cons_zero, List.set_cons_succ]
          refine wpAnyL_take 2 85 (.slice tl kl dl) [7] rfl rfl (by kernel_rfl) (by kernel_rfl) (by kernel_rfl) (by kernel_rfl) (by kernel_rfl) (fun _ _ _ h => h) (by rfl) (fun G _ => by have h := unhide HSL G; go_simp) hS ?_
          simp only [Act.put, List.setIfInBounds_toArray, List.set_cons_zero, List.set_cons_succ]
          refine wpAnyL_take 3 86 (.slice bo r cm) [5, 6, 7] rfl rfl (by kernel_rfl) (by kernel_rfl) (by kernel_rfl) (by kernel_rfl) (by kernel_rfl) (fun _ _ _ h => h) (by rfl) (fun _ _ => by go_simp) hS ?_
          simp only [Act.put, List.setIfInBounds_toArray, List.set_cons_zero, List.set_cons_succ]
          refine wpAnyL_take 4 87 (.int .i64 (j : Int)) [5, 6, 7] rfl rfl (by kernel_rfl) (by kernel_rfl) (by kernel_rfl) (by kernel_rfl) (by kernel_rfl) (fun _ _ _ h => h) (by rfl) (fun _ _ => by go_simp) hS ?_
          simp only [Act.put, List.setIfInBounds_toArray, List.set_cons_zero, List.set_cons_succ]
          refine wpAnyL_take 5 88 (.pointer (some ⟨g5, o5 + j * 2, none⟩)) [6, 7] rfl rfl (by kernel_rfl) (by kernel_rfl) (by kernel_rfl) (by kernel_rfl) (by kernel_rfl) (fun _ _ _ h => h) (by rfl) (fun _ _ => by go_simp) hS ?_
          simp only [Act.put, List.setIfInBounds_toArray, List.set_cons_zero, List.set_cons_succ]
          refine wpAnyL_take 6 89 (.agg #[.string y1, .string y2]) [7] rfl rfl (by kernel_rfl) (by kernel_rfl) (by kernel_rfl) (by kernel_rfl) (by kernel_rfl) (fun _ _ _ h => h) (by rfl) (fun G hG => by obtain ⟨e0, e1⟩ := unhide HCL G hG; go_simp) hS ?_
          simp only [Act.put, List.setIfInBounds_toArray, List.set_cons_zero, List.set_cons_succ]
          refine wpAnyL_take 8 91 (.slice ao q cl) [13] rfl rfl (by kernel_rfl) (by kernel_rfl) (by kernel_rfl) (by kernel_rfl) (by kernel_rfl) (fun _ _ _ h => h) (by rfl) (fun _ _ => by go_simp) hS ?_
          simp only [Act.put, List.setIfInBounds_toArray, List.set_cons_zero, List.set_cons_succ]
          refine wpAnyL_take 9 92 (.slice bo r cm) [11, 12, 13] rfl rfl (by kernel_rfl) (by kernel_rfl) (by kernel_rfl) (by kernel_rfl) (by kernel_rfl) (fun _ _ _ h => h) (by rfl) (fun _ _ => by go_simp) hS ?_
          simp only [Act.put, List.setIfInBounds_toArray, List.set_cons_zero, List.set_cons_succ]
          refine wpAnyL_take 10 93 (.int .i64 (j : Int)) [11, 12, 13] rfl rfl (by kernel_rfl) (by kernel_rfl) (by kernel_rfl) (by kernel_rfl) (by kernel_rfl) (fun _ _ _ h => h) (by rfl) (fun _ _ => by go_simp) hS ?_
          simp only [Act.put, List.setIfInBounds_toArray, List.set_cons_zero, List.set_cons_succ]
          refine wpAnyL_take 11 94 (.pointer (some ⟨g5, o5 + j * 2, none⟩)) [12, 13] rfl rfl (by kernel_rfl) (by kernel_rfl) (by kernel_rfl) (by kernel_rfl) (by kernel_rfl) (fun _ _ _ h => h) (by rfl) (fun _ _ => by go_simp) hS ?_
          simp only [Act.put, List.setIfInBounds_toArray, List.set_cons_zero, List.set_cons_succ]
          refine wpAnyL_take 12 95 (.agg #[.string y1, .string y2]) [13] rfl rfl (by kernel_rfl) (by kernel_rfl) (by kernel_rfl) (by kernel_rfl) (by kernel_rfl) (fun _ _ _ h => h) (by rfl) (fun G hG => by obtain ⟨e0, e1⟩ := unhide HCL G hG; go_simp) hS ?_
          simp only [Act.put, List.setIfInBounds_toArray, List.set_cons_zero, List.set_cons_succ]
          refine wpAnyL_one (i := 7) (by kernel_rfl) rfl (by rfl) fun K hK => ?_
          refine wp_call_fn 19 _ _ (by rfl) #[.slice tl kl dl, .agg #[.string y1, .string y2]] (by with_unfolding_all rfl) entTM (some 90) (by rfl) _ (asC (unhide HT1 X hS)) ?_
          rintro _ X1 ⟨rfl, hb⟩
          have HS1 : Hid (Below X.heap.size X X1) := (hS : Below X.heap.size X X).trans (hb.mono (Nat.le_refl _))
          clear hb
          refine hK _ _ (fun _ => (unhide HS1)) ?_
          clear hK K
          simp only [Act.put, List.setIfInBounds_toArray, List.set_cons_zero, List.set_cons_succ]
          refine wpAnyL_one (i := 13) (by kernel_rfl) rfl (by rfl) fun K hK => ?_
          refine wp_call_fn 19 _ _ (by rfl) #[.slice ao q cl, .agg #[.string y1, .string y2]] (by with_unfolding_all rfl) entTM (some 96) (by rfl) _ (asC (unhide HT2 X1 (unhide HS1))) ?_
          rintro _ X2 ⟨rfl, hb⟩
          have HS2 : Hid (Below X.heap.size X X2) := (unhide HS1).trans (hb.mono (unhide HS1).size)
          clear hb
          refine hK _ _ (fun _ => (unhide HS2)) ?_
          clear hK K
          simp only [Act.put, List.setIfInBounds_toArray, List.set_cons_zero, List.set_cons_succ]
          refine wpAnyL_one (i := 14) (by kernel_rfl) rfl (by rfl) fun K hK => ?_
          refine wp_val (.bool true) (by go_simp) (some 97) (by rfl) ?_
          refine hK _ _ (fun _ => (unhide HS2)) ?_
          clear hK K
          simp only [Act.put, List.setIfInBounds_toArray, List.set_cons_zero, List.set_cons_succ]
          refine wpAnyL_done (by kernel_rfl) ?_ _
          generalize X2 = X3 at *
          have HT3 := hide ((unhide HTX).below (unhide HS2))
          obtain ⟨g8, o8, hxo8, ix8, b0, b1⟩ : ∃ g8 o8, some (⟨g5, o5, none⟩ : Addr) = some ⟨g8, o8, none⟩ ∧ True ∧ X3.cell? ⟨g5, o5 + j * 2, none⟩ = some (.string y1) ∧ X3.cell? ⟨g5, o5 + j * 2 + 1, none⟩ = some (.string y2) := ⟨g5, o5, rfl, trivial, (unhide HCL X3 (unhide HS2)).1, (unhide HCL X3 (unhide HS2)).2⟩
          clear hxo8 ix8 HCL HT1 HT2 HSL
          go_wp2_with (first
            | (go_at_call 14; refine (unhide HIT _).mono ?_; rintro e X4 ⟨rfl, hb⟩; have HT4 := hide ((unhide HT3).below hb); have HAD := hide (kTake x (unhide HT4).s); clear hb HIT)
            | (go_at_call 9; refine (unhide HAD).mono ?_; rintro e X5 ⟨rfl, ha, hs⟩; have HT5 := hide ((unhide HT4).layS (unhide HNE) ha hs); clear ha hs HAD)
            | fail)
          go_roundw
          case rel => exact ⟨j, by omega, rfl, by rw [unhide HNX]; exact HT5⟩
          case measure => simp [intOf]
        · have hvi : ¬ (v1 : Int) > (v2 : Int) := by omega
          have hvn : v1 ≤ v2 := by omega
          obtain rfl : bb = false := by rw [hbb]; exact decide_eq_false (by omega)
          have HNX := hide (unhide HNO hv)
          clear hbb hv HYE HNO HBB
          go_wp2
          refine wp_region_last (fun G => Below wr.drew.heap.size wr.drew G) 14 hmix (Below.refl _ _) fun hS => ?_
          generalize wr.drew = X at *
          refine wpAnyL_take 0 83 (.slice bo r cm) [2, 7] rfl rfl (by kernel_rfl) (by kernel_rfl) (by kernel_rfl) (by kernel_rfl) (by kernel_rfl) (fun _ _ _ h => h) (by rfl) (fun _ _ => by go_simp) hS ?_
          simp only [Act.put, List.setIfInBounds_toArray, List.set_cons_zero, List.set_cons_succ]
          refine wpAnyL_take 1 84 (.int .i64 (j : Int)) [2, 7] rfl rfl (by kernel_rfl) (by kernel_rfl) (by kernel_rfl) (by kernel_rfl) (by kernel_rfl) (fun _ _ _ h => h) (by rfl) (fun _ _ => by go_simp) hS ?_
          simp only [Act.put, List.setIfInBounds_toArray, List.set_cons_zero, List.set_cons_succ]
          refine wpAnyL_take 2 85 (.slice tl kl dl) [7] rfl rfl (by kernel_rfl) (by kernel_rfl) (by kernel_rfl) (by kernel_rfl) (by kernel_rfl) (fun _ _ _ h => h) (by rfl) (fun G _ => by have h := unhide HSL G; go_simp) hS ?_
          simp only [Act.put, List.setIfInBounds_toArray, List.set_cons_zero, List.set_cons_succ]
          refine wpAnyL_take 3 86 (.slice bo r cm) [5, 6, 7] rfl rfl (by kernel_rfl) (by kernel_rfl) (by kernel_rfl) (by kernel_rfl) (by kernel_rfl) (fun _ _ _ h => h) (by rfl) (fun _ _ => by go_simp) hS ?_
          simp only [Act.put, List.setIfInBounds_toArray, List.set_cons_zero, List.set_cons_succ]
          refine wpAnyL_take 4 87 (.int .i64 (j : Int)) [5, 6, 7] rfl rfl (by kernel_rfl) (by kernel_rfl) (by kernel_rfl) (by kernel_rfl) (by kernel_rfl) (fun _ _ _ h => h) (by rfl) (fun _ _ => by go_simp) hS ?_
          simp only [Act.put, List.setIfInBounds_toArray, List.set_cons_zero, List.set_cons_succ]
          refine wpAnyL_take 5 88 (.pointer (some ⟨g5, o5 + j * 2, none⟩)) [6, 7] rfl rfl (by kernel_rfl) (by kernel_rfl) (by kernel_rfl) (by kernel_rfl) (by kernel_rfl) (fun _ _ _ h => h) (by rfl) (fun _ _ => by go_simp) hS ?_
          simp only [Act.put, List.setIfInBounds_toArray, List.set_cons_zero, List.set_cons_succ]
          refine wpAnyL_take 6 89 (.agg #[.string y1, .string y2]) [7] rfl rfl (by kernel_rfl) (by kernel_rfl) (by kernel_rfl) (by kernel_rfl) (by kernel_rfl) (fun _ _ _ h => h) (by rfl) (fun G hG => by obtain ⟨e0, e1⟩ := unhide HCL G hG; go_simp) hS ?_
          simp only [Act.put, List.setIfInBounds_toArray, List.set_cons_zero, List.set_cons_succ]
          refine wpAnyL_take 8 91 (.slice ao q cl) [13] rfl rfl (by kernel_rfl) (by kernel_rfl) (by kernel_rfl) (by kernel_rfl) (by kernel_rfl) (fun _ _ _ h => h) (by rfl) (fun _ _ => by go_simp) hS ?_
          simp only [Act.put, List.setIfInBounds_toArray, List.set_cons_zero, List.set_cons_succ]
          refine wpAnyL_take 9 92 (.slice bo r cm) [11, 12, 13] rfl rfl (by kernel_rfl) (by kernel_rfl) (by kernel_rfl) (by kernel_rfl) (by kernel_rfl) (fun _ _ _ h => h) (by rfl) (fun _ _ => by go_simp) hS ?_
          simp only [Act.put, List.setIfInBounds_toArray, List.set_cons_zero, List.set_cons_succ]
          refine wpAnyL_take 10 93 (.int .i64 (j : Int)) [11, 12, 13] rfl rfl (by kernel_rfl) (by kernel_rfl) (by kernel_rfl) (by kernel_rfl) (by kernel_rfl) (fun _ _ _ h => h) (by rfl) (fun _ _ => by go_simp) hS ?_
          simp only [Act.put, List.setIfInBounds_toArray, List.set_cons_zero, List.set_cons_succ]
          refine wpAnyL_take 11 94 (.pointer (some ⟨g5, o5 + j * 2, none⟩)) [12, 13] rfl rfl (by kernel_rfl) (by kernel_rfl) (by kernel_rfl) (by kernel_rfl) (by kernel_rfl) (fun _ _ _ h => h) (by rfl) (fun _ _ => by go_simp) hS ?_
          simp only [Act.put, List.setIfInBounds_toArray, List.set_cons_zero, List.set_cons_succ]
          refine wpAnyL_take 12 95 (.agg #[.string y1, .string y2]) [13] rfl rfl (by kernel_rfl) (by kernel_rfl) (by kernel_rfl) (by kernel_rfl) (by kernel_rfl) (fun _ _ _ h => h) (by rfl) (fun G hG => by obtain ⟨e0, e1⟩ := unhide HCL G hG; go_simp) hS ?_
          simp only [Act.put, List.setIfInBounds_toArray, List.set_cons_zero, List.set_cons_succ]
          refine wpAnyL_one (i := 7) (by kernel_rfl) rfl (by rfl) fun K hK => ?_
          refine wp_call_fn 19 _ _ (by rfl) #[.slice tl kl dl, .agg #[.string y1, .string y2]] (by with_unfolding_all rfl) entTM (some 90) (by rfl) _ (asC (unhide HT1 X hS)) ?_
          rintro _ X1 ⟨rfl, hb⟩
          have HS1 : Hid (Below X.heap.size X X1) := (hS : Below X.heap.size X X).trans (hb.mono (Nat.le_refl _))
          clear hb
          refine hK _ _ (fun _ => (unhide HS1)) ?_
          clear hK K
          simp only [Act.put, List.setIfInBounds_toArray, List.set_cons_zero, List.set_cons_succ]
          refine wpAnyL_one (i := 13) (by kernel_rfl) rfl (by rfl) fun K hK => ?_
          refine wp_call_fn 19 _ _ (by rfl) #[.slice ao q cl, .agg #[.string y1, .string y2]] (by with_unfolding_all rfl) entTM (some 96) (by rfl) _ (asC (unhide HT2 X1 (unhide HS1))) ?_
          rintro _ X2 ⟨rfl, hb⟩
          have HS2 : Hid (Below X.heap.size X X2) := (unhide HS1).trans (hb.mono (unhide HS1).size)
          clear hb
          refine hK _ _ (fun _ => (unhide HS2)) ?_
          clear hK K
          simp only [Act.put, List.setIfInBounds_toArray, List.set_cons_zero, List.set_cons_succ]
          refine wpAnyL_one (i := 14) (by kernel_rfl) rfl (by rfl) fun K hK => ?_
          refine wp_val (.bool false) (by go_simp) (some 97) (by rfl) ?_
          refine hK _ _ (fun _ => (unhide HS2)) ?_
          clear hK K
          simp only [Act.put, List.setIfInBounds_toArray, List.set_cons_zero, List.set_cons_succ]
          refine wpAnyL_done (by kernel_rfl) ?_ _
          have HT3 := hide ((unhide HTX).below (unhide HS2))
          clear HCL HT1 HT2 HSL
          go_wp2
          go_roundw
          case rel => exact ⟨j, by omega, rfl, by rw [unhide HNX]; exact HT3⟩
          case measure => simp [intOf]
  · as_aux_lemma =>
    by_cases hc3 : cs < 3
    · clear hc
      have hr1 : wrap64 ((r : Int) - 1) = (r : Int) - 1 := by simp only [wrap64]; omega
      have hq1 : wrap64 ((q : Int) - 1) = (q : Int) - 1 := by simp only [wrap64]; omega
      go_enter Try.func5, Try.ntmps5
      go_wp2_with (first
        | (go_at_call 17; refine (unhide HW).mono ?_; rintro e W1 ⟨rfl, hb⟩; have HB1 := hide hb; have HO1 := hide (S.Own.empty W1 W1.heap.size (Nat.le_refl _)); have HU1 : Hid (Below u.heap.size u W1) := (by have h := hb; rw [unhide HB] at h; exact h); have HA1 := hide (((unhide HL).below (unhide HU1)).below ((Below.refl W1.heap.size W1).alloc (Nat.le_refl _) (.cells #[] 36))); have HS1 : Hid (W1.heap.size ≤ (W1.alloc (.cells #[] 36)).heap.size) := (by show _ ≤ _; rw [World.size_alloc]; omega); have HE1 := hide ((Below.refl W1.heap.size W1).alloc (Nat.le_refl _) (.cells #[] 36)); clear hb HW)
        | (at_builtin; (with_reducible refine S.wpList_putE (by rfl) (.tmp 26) (.tmp 27) (by rfl) (some 28) (by rfl) W1.heap.size [] l 0 q rfl (unhide HQ) (some ⟨W1.heap.size, 0, none⟩) ao 0 cl (by with_unfolding_all rfl) (by with_unfolding_all rfl) (unhide HO1) (unhide HA1) (unhide HZL) (unhide HS1) ?_); intro x2 n2 c2 W2 HP2; simp only [Act.put, List.setIfInBounds_toArray, List.set_cons_zero, List.set_cons_succ]; have hn2 : q = n2 := ((unhide HP2).len.trans (unhide HQ).symm).symm; subst hn2; have HB2 := hide ((unhide HB1).trans (((unhide HE1).trans (unhide HP2).below).mono (by rw [unhide HB]; exact (unhide HB1).size))); have hof := unhide HKL x2 c2 W2 ((unhide HP2).own.at (by have := unhide HQ; show l.length ≤ _; omega)); rw [← unhide HQ] at hof; have HOF := hide hof; clear hof HO1 HA1 HS1 HE1)
        | (go_at_call 18; refine (unhide HOF).mono ?_; rintro e W3 ⟨a1, g1, rfl, hs, hb, h1, h2⟩; have HS3 := hide hs; have HB3 := hide ((unhide HB2).trans (hb.mono (by rw [unhide HB]; exact (unhide HB2).size))); have HO3 := hide (S.Own.empty W3 W3.heap.size (Nat.le_refl _)); have HU3 : Hid (Below u.heap.size u W3) := (by have h := unhide HB3; rw [unhide HB] at h; exact h); have HA3 := hide (((unhide HM).below (unhide HU3)).below ((Below.refl W3.heap.size W3).alloc (Nat.le_refl _) (.cells #[] 36))); have HZ3 : Hid (W3.heap.size ≤ (W3.alloc (.cells #[] 36)).heap.size) := (by show _ ≤ _; rw [World.size_alloc]; omega); have HE3 := hide ((Below.refl W3.heap.size W3).alloc (Nat.le_refl _) (.cells #[] 36)); clear hs hb h1 h2 HOF)
        | (at_builtin; (with_reducible refine S.wpList_putE (by rfl) (.tmp 34) (.tmp 35) (by rfl) (some 36) (by rfl) W3.heap.size [] m 0 r rfl (unhide HR) (some ⟨W3.heap.size, 0, none⟩) bo 0 cm (by with_unfolding_all rfl) (by with_unfolding_all rfl) (unhide HO3) (unhide HA3) (unhide HZM) (unhide HZ3) ?_); intro x4 n4 c4 W4 HP4; simp only [Act.put, List.setIfInBounds_toArray, List.set_cons_zero, List.set_cons_succ]; have hn4 : r = n4 := ((unhide HP4).len.trans (unhide HR).symm).symm; subst hn4; have HE4 := hide ((unhide HE3).trans (unhide HP4).below); have HB4 := hide ((unhide HB3).trans ((unhide HE4).mono (by rw [unhide HB]; exact (unhide HB3).size))); have HS4 := hide ((unhide HS3).below (unhide HE4)); have hof := unhide HKM x4 c4 W4 ((unhide HP4).own.at (by have := unhide HR; show m.length ≤ _; omega)); rw [← unhide HR] at hof; have HOG := hide hof; clear hof HO3 HA3 HZ3 HE3)
        | (go_at_call 18; refine (unhide HOG).mono ?_; rintro e W5 ⟨a2, g2, rfl, hs, hb, h1, h2⟩; have HT5 := hide hs; have HS5 := hide ((unhide HS4).below hb); have HB5 := hide ((unhide HB4).trans (hb.mono (by rw [unhide HB]; exact (unhide HB4).size))); have HN5 := hide (unhide HN W5); clear hs hb h1 h2 HOG)
        | (go_at_call 12; refine (unhide HN5).mono ?_; rintro e W6 ⟨a6, g6, rfl, hs, hb, h1, h2⟩; have HD6 := hide hs; have HB6 := hide ((unhide HB5).trans (hb.mono (by rw [unhide HB]; exact (unhide HB5).size))); have HG6 : Hid (B ≤ g6) := Nat.le_trans (by rw [unhide HB]; exact (unhide HB5).size) h2; have HMI := hide (kMinus a1 g1 30 a2 g2 30 _ _ W6 ((unhide HS5).below hb) ((unhide HT5).below hb) (by rw [adds_len, adds_len])); clear hs hb h1 h2 HN5)
        | (go_at_call 10; refine (unhide HMI).mono ?_; rintro e W7 ⟨a3, g3, c3, rfl, hs, hb, h1, h2⟩; rw [st_all] at hs; have HTS := hide (mkTw2 (unhide HB) (unhide HB6) hb (unhide HD6) hs (unhide HG6) h1 h2); have HNE := hide (twNe (unhide HD6) h2); clear hs hb h1 h2 HMI)
        | fail)
      clear HD6 HB6 HG6 HT5 HS5 HB5 HB4 HE4 HS4 HB3 HS3 HU3 HB2 HB1 HU1 HKL HKM HN HZL HZM HP2 HP4 hr1
      rw [← stA_nil 30 l] at HTS
      obtain ⟨MB, hMB⟩ : ∃ MB, MB = stB 30 l m l := ⟨_, rfl⟩
      rw [← hMB] at HTS
      have HMB := hide hMB
      clear hMB
      go_loopw [15] (fun sk wr => ∃ i : Nat, i ≤ r ∧ sk = .int .i64 ((i : Int) - 1) ∧ Hid (Tw u wr B a6 g6 30 a3 g3 c3 (stA 30 l (m.drop i)) MB)) (fun sk _ => (intOf sk + 1).toNat)
      case atStart => exact ⟨r, Nat.le_refl _, rfl, by rw [show m.drop r = [] by rw [unhide HR, List.drop_length]]; exact HTS⟩
      case round =>
        clear HTS
        obtain ⟨i, hi, rfl, HT⟩ := hrel
        cases i with
        | zero =>
          rw [List.drop_zero] at HT
          have hm1 : ¬ (0 : Int) ≤ ((0 : Nat) : Int) - 1 := by decide
          go_wp2
          clear hm1
          have HTS := HT
          rw [← stB_nil] at HTS
          clear HT
          go_loopw [16] (fun sk wr => ∃ i : Nat, i ≤ q ∧ sk = .int .i64 ((i : Int) - 1) ∧ Hid (Tw u wr B a6 g6 30 a3 g3 c3 (stB 30 l m (l.drop i)) MB)) (fun sk _ => (intOf sk + 1).toNat)
          case atStart => exact ⟨q, Nat.le_refl _, rfl, by rw [show l.drop q = [] by rw [unhide HQ, List.drop_length]]; exact HTS⟩
          case round =>
            clear HTS
            obtain ⟨i, hi, rfl, HT⟩ := hrel
            cases i with
            | zero =>
              rw [List.drop_zero] at HT
              have hm1 : ¬ (0 : Int) ≤ ((0 : Nat) : Int) - 1 := by decide
              have hcu := kCells (unhide HT).t
              have HLU : Hid (MB.length = 30) := (by show _ = _; rw [unhide HMB]; unfold stB; rw [zip_len, zerL_len])
              have HCU := hide hcu
              clear hcu
              go_wp2_with (first
                | (go_at_call 13; refine (unhide HCU).mono ?_; rintro e Y1 ⟨xo, cx, rfl, ho, hb⟩; have HY1 := hide ho; have HT1 := hide ((unhide HT).below hb); have HCD := hide (kCells (unhide HT1).s); clear ho hb HCU)
                | (go_at_call 13; refine (unhide HCD).mono ?_; rintro e Y2 ⟨yo, cy, rfl, ho, hb⟩; have hsm := lSameC _ _ xo yo cx cy Y2 (((unhide HY1).below hb).at (by rw [unhide HLU]; omega)) (ho.at (by rw [← unhide HMB, unhide HLU]; omega)); rw [decide_eq_true (unhide HMB)] at hsm; have HSM := hide hsm; have HT2 := hide ((unhide HT1).below hb); clear ho hb hsm HCD)
                | (go_at_call 20; refine (unhide HSM).mono ?_; rintro e Y3 ⟨rfl, z, hz⟩; have HB9 : Hid (Below B u Y3) := (by rw [hz]; exact S.belowDrewN (unhide HT2).bel z); clear hz HSM)
                | fail)
              go_ret
              exact ⟨rfl, unhide HB9⟩
            | succ j =>
              have e1 : (((j + 1 : Nat) : Int) - 1) = (j : Int) := by omega
              rw [e1]
              have hjj : (0 : Int) ≤ (j : Int) := by omega
              have hjq : (j : Int) < (q : Int) := by omega
              have hjl : j < l.length := by rw [← unhide HQ]; omega
              have hw : wrap64 ((j : Int) - 1) = (j : Int) - 1 := by simp only [wrap64]; omega
              have HDR := hide (drop_at hjl)
              have HIT := hide (fun w => unhide HIL l[j] (List.getElem_mem hjl) w)
              have HBX : Hid (Below u.heap.size u wr.drew) := by have hb := S.belowDrew (unhide HT).bel; rw [unhide HB] at hb; exact hb
              have HTX := hide ((unhide HT).below (S.belowDrew (Below.refl _ _)))
              obtain ⟨tl, kl, dl, HSL, HKL2, HTA⟩ : ∃ tl kl dl, Hid (∀ W : World, (Instr.slice 40 (.slice ao q cl) (some (.int .i64 (j : Int))) none none).run Try.prog W = .ok (.slice tl kl dl) W) ∧ Hid (kl = (l.drop j).length) ∧ Hid (∀ G, Below wr.drew.heap.size wr.drew G → RE.At G (l.drop j) tl dl) := by
                have h := fun G (hG : Below wr.drew.heap.size wr.drew G) => S.Rec.tail RE (((unhide HL).below (unhide HBX)).below hG) j (by omega)
                have h2 := (h wr.drew (Below.refl _ _)).2
                rw [← unhide HQ] at h2
                exact ⟨_, _, _, h2, by show _ = _; rw [List.length_drop, ← unhide HQ], fun G hG => (h G hG).1⟩
              obtain ⟨g5, o5, hxo, ix1, a0, a1⟩ := at_ixE ((unhide HL).below (unhide HBX)) j hjl
              rw [← unhide HQ] at ix1
              have HCL : Hid (∀ G, Below wr.drew.heap.size wr.drew G → G.cell? ⟨g5, o5 + j * 2, none⟩ = some (.string l[j].1) ∧ G.cell? ⟨g5, o5 + j * 2 + 1, none⟩ = some (.string l[j].2)) := fun G hG => by
                obtain ⟨g9, o9, h9, -, b0, b1⟩ := at_ixE (((unhide HL).below (unhide HBX)).below hG) j hjl
                rw [hxo] at h9
                cases h9
                exact ⟨b0, b1⟩
              have hT1 := fun G hG => lTimes (l.drop j) tl dl l[j] G (unhide HTA G hG)
              rw [← unhide HKL2] at hT1
              have hT2 := fun G (hG : Below wr.drew.heap.size wr.drew G) => lTimes m bo cm l[j] G (((unhide HM).below (unhide HBX)).below hG)
              rw [← unhide HR] at hT2
              have HYE := hide (fun hh => stB_yes 30 l m (l.drop (j + 1)) (l[j]'hjl) hh)
              have HNO := hide (fun hh => stB_no 30 l m (l.drop (j + 1)) (l[j]'hjl) hh)
              rw [unhide HDR] at hT1
              generalize l[j] = y at *
              rw [← unhide HDR] at hT1 HYE HNO
              obtain ⟨v1, hv1⟩ : ∃ v1, v1 = cnt (l.drop j) y := ⟨_, rfl⟩
              obtain ⟨v2, hv2⟩ : ∃ v2, v2 = cnt m y := ⟨_, rfl⟩
              rw [← hv1] at hT1 HYE HNO
              rw [← hv2] at hT2 HYE HNO
              have HT1 := hide hT1
              have HT2 := hide hT2
              obtain ⟨y1, y2⟩ := y
              replace HIT : Hid (∀ w, Calls Try.prog 14 #[.agg #[.string y1, .string y2]] w fun e u' => e = .returned (.int .u64 (itB (y1, y2)).toNat) ∧ Below w.heap.size w u') := HIT
              clear hT1 hT2 hv1 hv2 hjl hxo a0 a1 HDR HTA HKL2 e1
              generalize itB (y1, y2) = x at *
              have HBW := hide (unhide HT).bel
              clear HBW
              obtain ⟨bb, hbb⟩ : ∃ bb : Bool, bb = decide ((v2 : Int) < (v1 : Int)) := ⟨_, rfl⟩
              have HBB := hide hbb
              by_cases hv : v2 < v1
              · have hvi : (v1 : Int) > (v2 : Int) := by omega
                obtain rfl : bb = true := by rw [hbb]; exact decide_eq_true hvi
                have HNX := hide (unhide HYE hv)
                clear hbb hv HYE HNO HBB
                go_wp2
                refine wp_region_last (fun G => Below wr.drew.heap.size wr.drew G) 14 hmix (Below.refl _ _) fun hS => ?_
                generalize wr.drew = X at *
                refine wpAnyL_take 0 112 (.slice ao q cl) [2, 7] rfl rfl (by kernel_rfl) (by kernel_rfl) (by kernel_rfl) (by kernel_rfl) (by kernel_rfl) (fun _ _ _ h => h) (by rfl) (fun _ _ => by go_simp) hS ?_
                simp only [Act.put, List.setIfInBounds_toArray, List.set_cons_zero, List.set_cons_succ]
                refine wpAnyL_take 1 113 (.int .i64 (j : Int)) [2, 7] rfl rfl (by kernel_rfl) (by kernel_rfl) (by kernel_rfl) (by kernel_rfl) (by kernel_rfl) (fun _ _ _ h => h) (by rfl) (fun _ _ => by go_simp) hS ?_
                simp only [Act.put, List.setIfInBounds_toArray, List.set_cons_zero, List.set_cons_succ]
                refine wpAnyL_take 2 114 (.slice tl kl dl) [7] rfl rfl (by kernel_rfl) (by kernel_rfl) (by kernel_rfl) (by kernel_rfl) (by kernel_rfl) (fun _ _ _ h => h) (by rfl) (fun G _ => by have h := unhide HSL G; go_simp) hS ?_
                simp only [Act.put, List.setIfInBounds_toArray, List.set_cons_zero, List.set_cons_succ]
                refine wpAnyL_take 3 115 (.slice ao q cl) [5, 6, 7] rfl rfl (by kernel_rfl) (by kernel_rfl) (by kernel_rfl) (by kernel_rfl) (by kernel_rfl) (fun _ _ _ h => h) (by rfl) (fun _ _ => by go_simp) hS ?_
                simp only [Act.put, List.setIfInBounds_toArray, List.set_cons_zero, List.set_cons_succ]
                refine wpAnyL_take 4 116 (.int .i64 (j : Int)) [5, 6, 7] rfl rfl (by kernel_rfl) (by kernel_rfl) (by kernel_rfl) (by kernel_rfl) (by kernel_rfl) (fun _ _ _ h => h) (by rfl) (fun _ _ => by go_simp) hS ?_
                simp only [Act.put, List.setIfInBounds_toArray, List.set_cons_zero, List.set_cons_succ]
                refine wpAnyL_take 5 117 (.pointer (some ⟨g5, o5 + j * 2, none⟩)) [6, 7] rfl rfl (by kernel_rfl) (by kernel_rfl) (by kernel_rfl) (by kernel_rfl) (by kernel_rfl) (fun _ _ _ h => h) (by rfl) (fun _ _ => by go_simp) hS ?_
                simp only [Act.put, List.setIfInBounds_toArray, List.set_cons_zero, List.set_cons_succ]
                refine wpAnyL_take 6 118 (.agg #[.string y1, .string y2]) [7] rfl rfl (by kernel_rfl) (by kernel_rfl) (by kernel_rfl) (by kernel_rfl) (by kernel_rfl) (fun _ _ _ h => h) (by rfl) (fun G hG => by obtain ⟨e0, e1⟩ := unhide HCL G hG; go_simp) hS ?_
                simp only [Act.put, List.setIfInBounds_toArray, List.set_cons_zero, List.set_cons_succ]
                refine wpAnyL_take 8 120 (.slice bo r cm) [13] rfl rfl (by kernel_rfl) (by kernel_rfl) (by kernel_rfl) (by kernel_rfl) (by kernel_rfl) (fun _ _ _ h => h) (by rfl) (fun _ _ => by go_simp) hS ?_
                simp only [Act.put, List.setIfInBounds_toArray, List.set_cons_zero, List.set_cons_succ]
                refine wpAnyL_take 9 121 (.slice ao q cl) [11, 12, 13] rfl rfl (by kernel_rfl) (by kernel_rfl) (by kernel_rfl) (by kernel_rfl) (by kernel_rfl) (fun _ _ _ h => h) (by rfl) (fun _ _ => by go_simp) hS ?_
                simp only [Act.put, List.setIfInBounds_toArray, List.set_cons_zero, List.set_cons_succ]
                refine wpAnyL_take 10 122 (.int .i64 (j : Int)) [11, 12, 13] rfl rfl (by kernel_rfl) (by kernel_rfl) (by kernel_rfl) (by kernel_rfl) (by kernel_rfl) (fun _ _ _ h => h) (by rfl) (fun _ _ => by go_simp) hS ?_
                simp only [Act.put, List.setIfInBounds_toArray, List.set_cons_zero, List.set_cons_succ]
                refine wpAnyL_take 11 123 (.pointer (some ⟨g5, o5 + j * 2, none⟩)) [12, 13] rfl rfl (by kernel_rfl) (by kernel_rfl) (by kernel_rfl) (by kernel_rfl) (by kernel_rfl) (fun _ _ _ h => h) (by rfl) (fun _ _ => by go_simp) hS ?_
                simp only [Act.put, List.setIfInBounds_toArray, List.set_cons_zero, List.set_cons_succ]
                refine wpAnyL_take 12 124 (.agg #[.string y1, .string y2]) [13] rfl rfl (by kernel_rfl) (by kernel_rfl) (by kernel_rfl) (by kernel_rfl) (by kernel_rfl) (fun _ _ _ h => h) (by rfl) (fun G hG => by obtain ⟨e0, e1⟩ := unhide HCL G hG; go_simp) hS ?_
                simp only [Act.put, List.setIfInBounds_toArray, List.set_cons_zero, List.set_cons_succ]
                refine wpAnyL_one (i := 7) (by kernel_rfl) rfl (by rfl) fun K hK => ?_
                refine wp_call_fn 19 _ _ (by rfl) #[.slice tl kl dl, .agg #[.string y1, .string y2]] (by with_unfolding_all rfl) entTM (some 119) (by rfl) _ (asC (unhide HT1 X hS)) ?_
                rintro _ X1 ⟨rfl, hb⟩
                have HS1 : Hid (Below X.heap.size X X1) := (hS : Below X.heap.size X X).trans (hb.mono (Nat.le_refl _))
                clear hb
                refine hK _ _ (fun _ => (unhide HS1)) ?_
                clear hK K
                simp only [Act.put, List.setIfInBounds_toArray, List.set_cons_zero, List.set_cons_succ]
                refine wpAnyL_one (i := 13) (by kernel_rfl) rfl (by rfl) fun K hK => ?_
                refine wp_call_fn 19 _ _ (by rfl) #[.slice bo r cm, .agg #[.string y1, .string y2]] (by with_unfolding_all rfl) entTM (some 125) (by rfl) _ (asC (unhide HT2 X1 (unhide HS1))) ?_
                rintro _ X2 ⟨rfl, hb⟩
                have HS2 : Hid (Below X.heap.size X X2) := (unhide HS1).trans (hb.mono (unhide HS1).size)
                clear hb
                refine hK _ _ (fun _ => (unhide HS2)) ?_
                clear hK K
                simp only [Act.put, List.setIfInBounds_toArray, List.set_cons_zero, List.set_cons_succ]
                refine wpAnyL_one (i := 14) (by kernel_rfl) rfl (by rfl) fun K hK => ?_
                refine wp_val (.bool true) (by go_simp) (some 126) (by rfl) ?_
                refine hK _ _ (fun _ => (unhide HS2)) ?_
                clear hK K
                simp only [Act.put, List.setIfInBounds_toArray, List.set_cons_zero, List.set_cons_succ]
                refine wpAnyL_done (by kernel_rfl) ?_ _
                generalize X2 = X3 at *
                have HT3 := hide ((unhide HTX).below (unhide HS2))
                obtain ⟨g8, o8, hxo8, ix8, b0, b1⟩ : ∃ g8 o8, some (⟨g5, o5, none⟩ : Addr) = some ⟨g8, o8, none⟩ ∧ True ∧ X3.cell? ⟨g5, o5 + j * 2, none⟩ = some (.string y1) ∧ X3.cell? ⟨g5, o5 + j * 2 + 1, none⟩ = some (.string y2) := ⟨g5, o5, rfl, trivial, (unhide HCL X3 (unhide HS2)).1, (unhide HCL X3 (unhide HS2)).2⟩
                clear hxo8 ix8 HCL HT1 HT2 HSL
                go_wp2_with (first
                  | (go_at_call 14; refine (unhide HIT _).mono ?_; rintro e X4 ⟨rfl, hb⟩; have HT4 := hide ((unhide HT3).below hb); have HAD := hide (kAdd x (unhide HT4).s); clear hb HIT)
                  | (go_at_call 8; refine (unhide HAD).mono ?_; rintro e X5 ⟨rfl, ha, hs⟩; have HT5 := hide ((unhide HT4).layS (unhide HNE) ha hs); clear ha hs HAD)
                  | fail)
                go_roundw
                case rel => exact ⟨j, by omega, rfl, by rw [unhide HNX]; exact HT5⟩
                case measure => simp [intOf]
              · have hvi : ¬ (v1 : Int) > (v2 : Int) := by omega
                have hvn : v1 ≤ v2 := by omega
                obtain rfl : bb = false := by rw [hbb]; exact decide_eq_false (by omega)
                have HNX := hide (unhide HNO hv)
                clear hbb hv HYE HNO HBB
                go_wp2
                refine wp_region_last (fun G => Below wr.drew.heap.size wr.drew G) 14 hmix (Below.refl _ _) fun hS => ?_
                generalize wr.drew = X at *
                refine wpAnyL_take 0 112 (.slice ao q cl) [2, 7] rfl rfl (by kernel_rfl) (by kernel_rfl) (by kernel_rfl) (by kernel_rfl) (by kernel_rfl) (fun _ _ _ h => h) (by rfl) (fun _ _ => by go_simp) hS ?_
                simp only [Act.put, List.setIfInBounds_toArray, List.set_cons_zero, List.set_cons_succ]
                refine wpAnyL_take 1 113 (.int .i64 (j : Int)) [2, 7] rfl rfl (by kernel_rfl) (by kernel_rfl) (by kernel_rfl) (by kernel_rfl) (by kernel_rfl) (fun _ _ _ h => h) (by rfl) (fun _ _ => by go_simp) hS ?_
                simp only [Act.put, List.setIfInBounds_toArray, List.set_cons_zero, List.set_cons_succ]
                refine wpAnyL_take 2 114 (.slice tl kl dl) [7] rfl rfl (by kernel_rfl) (by kernel_rfl) (by kernel_rfl) (by kernel_rfl) (by kernel_rfl) (fun _ _ _ h => h) (by rfl) (fun G _ => by have h := unhide HSL G; go_simp) hS ?_
                simp only [Act.put, List.setIfInBounds_toArray, List.set_cons_zero, List.set_cons_succ]
                refine wpAnyL_take 3 115 (.slice ao q cl) [5, 6, 7] rfl rfl (by kernel_rfl) (by kernel_rfl) (by kernel_rfl) (by kernel_rfl) (by kernel_rfl) (fun _ _ _ h => h) (by rfl) (fun _ _ => by go_simp) hS ?_
                simp only [Act.put, List.setIfInBounds_toArray, List.set_cons_zero, List.set_cons_succ]
                refine wpAnyL_take 4 116 (.int .i64 (j : Int)) [5, 6, 7] rfl rfl (by kernel_rfl) (by kernel_rfl) (by kernel_rfl) (by kernel_rfl) (by kernel_rfl) (fun _ _ _ h => h) (by rfl) (fun _ _ => by go_simp) hS ?_
                simp only [Act.put, List.setIfInBounds_toArray, List.set_cons_zero, List.set_cons_succ]
                refine wpAnyL_take 5 117 (.pointer (some ⟨g5, o5 + j * 2, none⟩)) [6, 7] rfl rfl (by kernel_rfl) (by kernel_rfl) (by kernel_rfl) (by kernel_rfl) (by kernel_rfl) (fun _ _ _ h => h) (by rfl) (fun _ _ => by go_simp) hS ?_
                simp only [Act.put, List.setIfInBounds_toArray, List.set_cons_zero, List.set_cons_succ]
                refine wpAnyL_take 6 118 (.agg #[.string y1, .string y2]) [7] rfl rfl (by kernel_rfl) (by kernel_rfl) (by kernel_rfl) (by kernel_rfl) (by kernel_rfl) (fun _ _ _ h => h) (by rfl) (fun G hG => by obtain ⟨e0, e1⟩ := unhide HCL G hG; go_simp) hS ?_
                simp only [Act.put, List.setIfInBounds_toArray, List.set_cons_zero, List.set_cons_succ]
                refine wpAnyL_take 8 120 (.slice bo r cm) [13] rfl rfl (by kernel_rfl) (by kernel_rfl) (by kernel_rfl) (by kernel_rfl) (by kernel_rfl) (fun _ _ _ h => h) (by rfl) (fun _ _ => by go_simp) hS ?_
                simp only [Act.put, List.setIfInBounds_toArray, List.set_cons_zero, List.set_cons_succ]
                refine wpAnyL_take 9 121 (.slice ao q cl) [11, 12, 13] rfl rfl (by kernel_rfl) (by kernel_rfl) (by kernel_rfl) (by kernel_rfl) (by kernel_rfl) (fun _ _ _ h => h) (by rfl) (fun _ _ => by go_simp) hS ?_
                simp only [Act.put, List.setIfInBounds_toArray, List.set_cons_zero, List.set_cons_succ]
                refine wpAnyL_take 10 122 (.int .i64 (j : Int)) [11, 12, 13] rfl rfl (by kernel_rfl) (by kernel_rfl) (by kernel_rfl) (by kernel_rfl) (by kernel_rfl) (fun _ _ _ h => h) (by rfl) (fun _ _ => by go_simp) hS ?_
                simp only [Act.put, List.setIfInBounds_toArray, List.set_cons_zero, List.set_cons_succ]
                refine wpAnyL_take 11 123 (.pointer (some ⟨g5, o5 + j * 2, none⟩)) [12, 13] rfl rfl (by kernel_rfl) (by kernel_rfl) (by kernel_rfl) (by kernel_rfl) (by kernel_rfl) (fun _ _ _ h => h) (by rfl) (fun _ _ => by go_simp) hS ?_
                simp only [Act.put, List.setIfInBounds_toArray, List.set_cons_zero, List.set_cons_succ]
                refine wpAnyL_take 12 124 (.agg #[.string y1, .string y2]) [13] rfl rfl (by kernel_rfl) (by kernel_rfl) (by kernel_rfl) (by kernel_rfl) (by kernel_rfl) (fun _ _ _ h => h) (by rfl) (fun G hG => by obtain ⟨e0, e1⟩ := unhide HCL G hG; go_simp) hS ?_
                simp only [Act.put, List.setIfInBounds_toArray, List.set_cons_zero, List.set_cons_succ]
                refine wpAnyL_one (i := 7) (by kernel_rfl) rfl (by rfl) fun K hK => ?_
                refine wp_call_fn 19 _ _ (by rfl) #[.slice tl kl dl, .agg #[.string y1, .string y2]] (by with_unfolding_all rfl) entTM (some 119) (by rfl) _ (asC (unhide HT1 X hS)) ?_
                rintro _ X1 ⟨rfl, hb⟩
                have HS1 : Hid (Below X.heap.size X X1) := (hS : Below X.heap.size X X).trans (hb.mono (Nat.le_refl _))
                clear hb
                refine hK _ _ (fun _ => (unhide HS1)) ?_
                clear hK K
                simp only [Act.put, List.setIfInBounds_toArray, List.set_cons_zero, List.set_cons_succ]
                refine wpAnyL_one (i := 13) (by kernel_rfl) rfl (by rfl) fun K hK => ?_
                refine wp_call_fn 19 _ _ (by rfl) #[.slice bo r cm, .agg #[.string y1, .string y2]] (by with_unfolding_all rfl) entTM (some 125) (by rfl) _ (asC (unhide HT2 X1 (unhide HS1))) ?_
                rintro _ X2 ⟨rfl, hb⟩
                have HS2 : Hid (Below X.heap.size X X2) := (unhide HS1).trans (hb.mono (unhide HS1).size)
                clear hb
                refine hK _ _ (fun _ => (unhide HS2)) ?_
                clear hK K
                simp only [Act.put, List.setIfInBounds_toArray, List.set_cons_zero, List.set_cons_succ]
                refine wpAnyL_one (i := 14) (by kernel_rfl) rfl (by rfl) fun K hK => ?_
                refine wp_val (.bool false) (by go_simp) (some 126) (by rfl) ?_
                refine hK _ _ (fun _ => (unhide HS2)) ?_
                clear hK K
                simp only [Act.put, List.setIfInBounds_toArray, List.set_cons_zero, List.set_cons_succ]
                refine wpAnyL_done (by kernel_rfl) ?_ _
                have HT3 := hide ((unhide HTX).below (unhide HS2))
                clear HCL HT1 HT2 HSL
                go_wp2
                go_roundw
                case rel => exact ⟨j, by omega, rfl, by rw [unhide HNX]; exact HT3⟩
                case measure => simp [intOf]
        | succ j =>
          have e1 : (((j + 1 : Nat) : Int) - 1) = (j : Int) := by omega
          rw [e1]
          have hjj : (0 : Int) ≤ (j : Int) := by omega
          have hjq : (j : Int) < (r : Int) := by omega
          have hjl : j < m.length := by rw [← unhide HR]; omega
          have hw : wrap64 ((j : Int) - 1) = (j : Int) - 1 := by simp only [wrap64]; omega
          have HDR := hide (drop_at hjl)
          have HIT := hide (fun w => unhide HIM m[j] (List.getElem_mem hjl) w)
          have HBX : Hid (Below u.heap.size u wr.drew) := by have hb := S.belowDrew (unhide HT).bel; rw [unhide HB] at hb; exact hb
          have HTX := hide ((unhide HT).below (S.belowDrew (Below.refl _ _)))
          obtain ⟨tl, kl, dl, HSL, HKL2, HTA⟩ : ∃ tl kl dl, Hid (∀ W : World, (Instr.slice 40 (.slice bo r cm) (some (.int .i64 (j : Int))) none none).run Try.prog W = .ok (.slice tl kl dl) W) ∧ Hid (kl = (m.drop j).length) ∧ Hid (∀ G, Below wr.drew.heap.size wr.drew G → RE.At G (m.drop j) tl dl) := by
            have h := fun G (hG : Below wr.drew.heap.size wr.drew G) => S.Rec.tail RE (((unhide HM).below (unhide HBX)).below hG) j (by omega)
            have h2 := (h wr.drew (Below.refl _ _)).2
            rw [← unhide HR] at h2
            exact ⟨_, _, _, h2, by show _ = _; rw [List.length_drop, ← unhide HR], fun G hG => (h G hG).1⟩
          obtain ⟨g5, o5, hxo, ix1, a0, a1⟩ := at_ixE ((unhide HM).below (unhide HBX)) j hjl
          rw [← unhide HR] at ix1
          have HCL : Hid (∀ G, Below wr.drew.heap.size wr.drew G → G.cell? ⟨g5, o5 + j * 2, none⟩ = some (.string m[j].1) ∧ G.cell? ⟨g5, o5 + j * 2 + 1, none⟩ = some (.string m[j].2)) := fun G hG => by
            obtain ⟨g9, o9, h9, -, b0, b1⟩ := at_ixE (((unhide HM).below (unhide HBX)).below hG) j hjl
            rw [hxo] at h9
            cases h9
            exact ⟨b0, b1⟩
          have hT1 := fun G hG => lTimes (m.drop j) tl dl m[j] G (unhide HTA G hG)
          rw [← unhide HKL2] at hT1
          have hT2 := fun G (hG : Below wr.drew.heap.size wr.drew G) => lTimes l ao cl m[j] G (((unhide HL).below (unhide HBX)).below hG)
          rw [← unhide HQ] at hT2
          have HYE := hide (fun hh => stA_yes 30 l (m.drop (j + 1)) (m[j]'hjl) hh)
          have HNO := hide (fun hh => stA_no 30 l (m.drop (j + 1)) (m[j]'hjl) hh)
          rw [unhide HDR] at hT1
          generalize m[j] = y at *
          rw [← unhide HDR] at hT1 HYE HNO
          obtain ⟨v1, hv1⟩ : ∃ v1, v1 = cnt (m.drop j) y := ⟨_, rfl⟩
          obtain ⟨v2, hv2⟩ : ∃ v2, v2 = cnt l y := ⟨_, rfl⟩
          rw [← hv1] at hT1 HYE HNO
          rw [← hv2] at hT2 HYE HNO
          have HT1 := hide hT1
          have HT2 := hide hT2
          obtain ⟨y1, y2⟩ := y
          replace HIT : Hid (∀ w, Calls Try.prog 14 #[.agg #[.string y1, .string y2]] w fun e u' => e = .returned (.int .u64 (itB (y1, y2)).toNat) ∧ Below w.heap.size w u') := HIT
          clear hT1 hT2 hv1 hv2 hjl hxo a0 a1 HDR HTA HKL2 e1
          generalize itB (y1, y2) = x at *
          have HBW := hide (unhide HT).bel
          clear HBW
          obtain ⟨bb, hbb⟩ : ∃ bb : Bool, bb = decide ((v2 : Int) < (v1 : Int)) := ⟨_, rfl⟩
          have HBB := hide hbb
          by_cases hv : v2 < v1
          · have hvi : (v1 : Int) > (v2 : Int) := by omega
            obtain rfl : bb = true := by rw [hbb]; exact decide_eq_true hvi
            have HNX := hide (unhide HYE hv)
            clear hbb hv HYE HNO HBB
            go_wp2
            refine wp_region_last (fun G => Below wr.drew.heap.size wr.drew G) 14 hmix (Below.refl _ _) fun hS => ?_
            generalize wr.drew = X at *
            refine wpAnyL_take 0 83 (.slice bo r cm) [2, 7] rfl rfl (by kernel_rfl) (by kernel_rfl) (by kernel_rfl) (by kernel_rfl) (by kernel_rfl) (fun _ _ _ h => h) (by rfl) (fun _ _ => by go_simp) hS ?_
            simp only [Act.put, List.setIfInBounds_toArray, List.set_cons_zero, List.set_cons_succ]
            refine wpAnyL_take 1 84 (.int .i64 (j : Int)) [2, 7] rfl rfl (by kernel_rfl) (by kernel_rfl) (by kernel_rfl) (by kernel_rfl) (by kernel_rfl) (fun _ _ _ h => h) (by rfl) (fun _ _ => by go_simp) hS ?_
            simp only [Act.put, List.setIfInBounds_toArray, List.set_cons_zero, List.set_cons_succ]
            refine wpAnyL_take 2 85 (.slice tl kl dl) [7] rfl rfl (by kernel_rfl) (by kernel_rfl) (by kernel_rfl) (by kernel_rfl) (by kernel_rfl) (fun _ _ _ h => h) (by rfl) (fun G _ => by have h := unhide HSL G; go_simp) hS ?_
            simp only [Act.put, List.setIfInBounds_toArray, List.set_cons_zero, List.set_cons_succ]
            refine wpAnyL_take 3 86 (.slice bo r cm) [5, 6, 7] rfl rfl (by kernel_rfl) (by kernel_rfl) (by kernel_rfl) (by kernel_rfl) (by kernel_rfl) (fun _ _ _ h => h) (by rfl) (fun _ _ => by go_simp) hS ?_
            simp only [Act.put, List.setIfInBounds_toArray, List.set_cons_zero, List.set_cons_succ]
            refine wpAnyL_take 4 87 (.int .i64 (j : Int)) [5, 6, 7] rfl rfl (by kernel_rfl) (by kernel_rfl) (by kernel_rfl) (by kernel_rfl) (by kernel_rfl) (fun _ _ _ h => h) (by rfl) (fun _ _ => by go_simp) hS ?_
            simp only [Act.put, List.setIfInBounds_toArray, List.set_cons_zero, List.set_cons_succ]
            refine wpAnyL_take 5 88 (.pointer (some ⟨g5, o5 + j * 2, none⟩)) [6, 7] rfl rfl (by kernel_rfl) (by kernel_rfl) (by kernel_rfl) (by kernel_rfl) (by kernel_rfl) (fun _ _ _ h => h) (by rfl) (fun _ _ => by go_simp) hS ?_
            simp only [Act.put, List.setIfInBounds_toArray, List.set_cons_zero, List.set_cons_succ]
            refine wpAnyL_take 6 89 (.agg #[.string y1, .string y2]) [7] rfl rfl (by kernel_rfl) (by kernel_rfl) (by kernel_rfl) (by kernel_rfl) (by kernel_rfl) (fun _ _ _ h => h) (by rfl) (fun G hG => by obtain ⟨e0, e1⟩ := unhide HCL G hG; go_simp) hS ?_
            simp only [Act.put, List.setIfInBounds_toArray, List.set_cons_zero, List.set_cons_succ]
            refine wpAnyL_take 8 91 (.slice ao q cl) [13] rfl rfl (by kernel_rfl) (by kernel_rfl) (by kernel_rfl) (by kernel_rfl) (by kernel_rfl) (fun _ _ _ h => h) (by rfl) (fun _ _ => by go_simp) hS ?_
            simp only [Act.put, List.setIfInBounds_toArray, List.set_cons_zero, List.set_cons_succ]
            refine wpAnyL_take 9 92 (.slice bo r cm) [11, 12, 13] rfl rfl (by kernel_rfl) (by kernel_rfl) (by kernel_rfl) (by kernel_rfl) (by kernel_rfl) (fun _ _ _ h => h) (by rfl) (fun _ _ => by go_simp) hS ?_
            simp only [Act.put, List.setIfInBounds_toArray, List.set_cons_zero, List.set_cons_succ]
            refine wpAnyL_take 10 93 (.int .i64 (j : Int)) [11, 12, 13] rfl rfl (by kernel_rfl) (by kernel_rfl) (by kernel_rfl) (by kernel_rfl) (by kernel_rfl) (fun _ _ _ h => h) (by rfl) (fun _ _ => by go_simp) hS ?_
            simp only [Act.put, List.setIfInBounds_toArray, List.set_cons_zero, List.set_cons_succ]
            refine wpAnyL_take 11 94 (.pointer (some ⟨g5, o5 + j * 2, none⟩)) [12, 13] rfl rfl (by kernel_rfl) (by kernel_rfl) (by kernel_rfl) (by kernel_rfl) (by kernel_rfl) (fun _ _ _ h => h) (by rfl) (fun _ _ => by go_simp) hS ?_
            simp only [Act.put, List.setIfInBounds_toArray, List.set_cons_zero, List.set_cons_succ]
            refine wpAnyL_take 12 95 (.agg #[.string y1, .string y2]) [13] rfl rfl (by kernel_rfl) (by kernel_rfl) (by kernel_rfl) (by kernel_rfl) (by kernel_rfl) (fun _ _ _ h => h) (by rfl) (fun G hG => by obtain ⟨e0, e1⟩ := unhide HCL G hG; go_simp) hS ?_
            simp only [Act.put, List.setIfInBounds_toArray, List.set_cons_zero, List.set_cons_succ]
            refine wpAnyL_one (i := 7) (by kernel_rfl) rfl (by rfl) fun K hK => ?_
            refine wp_call_fn 19 _ _ (by rfl) #[.slice tl kl dl, .agg #[.string y1, .string y2]] (by with_unfolding_all rfl) entTM (some 90) (by rfl) _ (asC (unhide HT1 X hS)) ?_
            rintro _ X1 ⟨rfl, hb⟩
            have HS1 : Hid (Below X.heap.size X X1) := (hS : Below X.heap.size X X).trans (hb.mono (Nat.le_refl _))
            clear hb
            refine hK _ _ (fun _ => (unhide HS1)) ?_
            clear hK K
            simp only [Act.put, List.setIfInBounds_toArray, List.set_cons_zero, List.set_cons_succ]
            refine wpAnyL_one (i := 13) (by kernel_rfl) rfl (by rfl) fun K hK => ?_
            refine wp_call_fn 19 _ _ (by rfl) #[.slice ao q cl, .agg #[.string y1, .string y2]] (by with_unfolding_all rfl) entTM (some 96) (by rfl) _ (asC (unhide HT2 X1 (unhide HS1))) ?_
            rintro _ X2 ⟨rfl, hb⟩
            have HS2 : Hid (Below X.heap.size X X2) := (unhide HS1).trans (hb.mono (unhide HS1).size)
            clear hb
            refine hK _ _ (fun _ => (unhide HS2)) ?_
            clear hK K
            simp only [Act.put, List.setIfInBounds_toArray, List.set_cons_zero, List.set_cons_succ]
            refine wpAnyL_one (i := 14) (by kernel_rfl) rfl (by rfl) fun K hK => ?_
            refine wp_val (.bool true) (by go_simp) (some 97) (by rfl) ?_
            refine hK _ _ (fun _ => (unhide HS2)) ?_
            clear hK K
            simp only [Act.put, List.setIfInBounds_toArray, List.set_cons_zero, List.set_cons_succ]
            refine wpAnyL_done (by kernel_rfl) ?_ _
            generalize X2 = X3 at *
            have HT3 := hide ((unhide HTX).below (unhide HS2))
            obtain ⟨g8, o8, hxo8, ix8, b0, b1⟩ : ∃ g8 o8, some (⟨g5, o5, none⟩ : Addr) = some ⟨g8, o8, none⟩ ∧ True ∧ X3.cell? ⟨g5, o5 + j * 2, none⟩ = some (.string y1) ∧ X3.cell? ⟨g5, o5 + j * 2 + 1, none⟩ = some (.string y2) := ⟨g5, o5, rfl, trivial, (unhide HCL X3 (unhide HS2)).1, (unhide HCL X3 (unhide HS2)).2⟩
            clear hxo8 ix8 HCL HT1 HT2 HSL
            go_wp2_with (first
              | (go_at_call 14; refine (unhide HIT _).mono ?_; rintro e X4 ⟨rfl, hb⟩; have HT4 := hide ((unhide HT3).below hb); have HAD := hide (kTake x (unhide HT4).s); clear hb HIT)
              | (go_at_call 9; refine (unhide HAD).mono ?_; rintro e X5 ⟨rfl, ha, hs⟩; have HT5 := hide ((unhide HT4).layS (unhide HNE) ha hs); clear ha hs HAD)
              | fail)
            go_roundw
            case rel => exact ⟨j, by omega, rfl, by rw [unhide HNX]; exact HT5⟩
            case measure => simp [intOf]
          · have hvi : ¬ (v1 : Int) > (v2 : Int) := by omega
            have hvn : v1 ≤ v2 := by omega
            obtain rfl : bb = false := by rw [hbb]; exact decide_eq_false (by omega)
            have HNX := hide (unhide HNO hv)
            clear hbb hv HYE HNO HBB
            go_wp2
            refine wp_region_last (fun G => Below wr.drew.heap.size wr.drew G) 14 hmix (Below.refl _ _) fun hS => ?_
            generalize wr.drew = X at *
            refine wpAnyL_take 0 83 (.slice bo r cm) [2, 7] rfl rfl (by kernel_rfl) (by kernel_rfl) (by kernel_rfl) (by kernel_rfl) (by kernel_rfl) (fun _ _ _ h => h) (by rfl) (fun _ _ => by go_simp) hS ?_
            simp only [Act.put, List.setIfInBounds_toArray, List.set_cons_zero, List.set_cons_succ]
            refine wpAnyL_take 1 84 (.int .i64 (j : Int)) [2, 7] rfl rfl (by kernel_rfl) (by kernel_rfl) (by kernel_rfl) (by kernel_rfl) (by kernel_rfl) (fun _ _ _ h => h) (by rfl) (fun _ _ => by go_simp) hS ?_
            simp only [Act.put, List.setIfInBounds_toArray, List.set_cons_zero, List.set_cons_succ]
            refine wpAnyL_take 2 85 (.slice tl kl dl) [7] rfl rfl (by kernel_rfl) (by kernel_rfl) (by kernel_rfl) (by kernel_rfl) (by kernel_rfl) (fun _ _ _ h => h) (by rfl) (fun G _ => by have h := unhide HSL G; go_simp) hS ?_
            simp only [Act.put, List.setIfInBounds_toArray, List.set_cons_zero, List.set_cons_succ]
            refine wpAnyL_take 3 86 (.slice bo r cm) [5, 6, 7] rfl rfl (by kernel_rfl) (by kernel_rfl) (by kernel_rfl) (by kernel_rfl) (by kernel_rfl) (fun _ _ _ h => h) (by rfl) (fun _ _ => by go_simp) hS ?_
            simp only [Act.put, List.setIfInBounds_toArray, List.set_cons_zero, List.set_cons_succ]
            refine wpAnyL_take 4 87 (.int .i64 (j : Int)) [5, 6, 7] rfl rfl (by kernel_rfl) (by kernel_rfl) (by kernel_rfl) (by kernel_rfl) (by kernel_rfl) (fun _ _ _ h => h) (by rfl) (fun _ _ => by go_simp) hS ?_
            simp only [Act.put, List.setIfInBounds_toArray, List.set_cons_zero, List.set_cons_succ]
            refine wpAnyL_take 5 88 (.pointer (some ⟨g5, o5 + j * 2, none⟩)) [6, 7] rfl rfl (by kernel_rfl) (by kernel_rfl) (by kernel_rfl) (by kernel_rfl) (by kernel_rfl) (fun _ _ _ h => h) (by rfl) (fun _ _ => by go_simp) hS ?_
            simp only [Act.put, List.setIfInBounds_toArray, List.set_cons_zero, List.set_cons_succ]
            refine wpAnyL_take 6 89 (.agg #[.string y1, .string y2]) [7] rfl rfl (by kernel_rfl) (by kernel_rfl) (by kernel_rfl) (by kernel_rfl) (by kernel_rfl) (fun _ _ _ h => h) (by rfl) (fun G hG => by obtain ⟨e0, e1⟩ := unhide HCL G hG; go_simp) hS ?_
            simp only [Act.put, List.setIfInBounds_toArray, List.set_cons_zero, List.set_cons_succ]
            refine wpAnyL_take 8 91 (.slice ao q cl) [13] rfl rfl (by kernel_rfl) (by kernel_rfl) (by kernel_rfl) (by kernel_rfl) (by kernel_rfl) (fun _ _ _ h => h) (by rfl) (fun _ _ => by go_simp) hS ?_
            simp only [Act.put, List.setIfInBounds_toArray, List.set_cons_zero, List.set_cons_succ]
            refine wpAnyL_take 9 92 (.slice bo r cm) [11, 12, 13] rfl rfl (by kernel_rfl) (by kernel_rfl) (by kernel_rfl) (by kernel_rfl) (by kernel_rfl) (fun _ _ _ h => h) (by rfl) (fun _ _ => by go_simp) hS ?_
            simp only [Act.put, List.setIfInBounds_toArray, List.set_cons_zero, List.set_cons_succ]
            refine wpAnyL_take 10 93 (.int .i64 (j : Int)) [11, 12, 13] rfl rfl (by kernel_rfl) (by kernel_rfl) (by kernel_rfl) (by kernel_rfl) (by kernel_rfl) (fun _ _ _ h => h) (by rfl) (fun _ _ => by go_simp) hS ?_
            simp only [Act.put, List.setIfInBounds_toArray, List.set_cons_zero, List.set_cons_succ]
            refine wpAnyL_take 11 94 (.pointer (some ⟨g5, o5 + j * 2, none⟩)) [12, 13] rfl rfl (by kernel_rfl) (by kernel_rfl) (by kernel_rfl) (by kernel_rfl) (by kernel_rfl) (fun _ _ _ h => h) (by rfl) (fun _ _ => by go_simp) hS ?_
            simp only [Act.put, List.setIfInBounds_toArray, List.set_cons_zero, List.set_cons_succ]
            refine wpAnyL_take 12 95 (.agg #[.string y1, .string y2]) [13] rfl rfl (by kernel_rfl) (by kernel_rfl) (by kernel_rfl) (by kernel_rfl) (by kernel_rfl) (fun _ _ _ h => h) (by rfl) (fun G hG => by obtain ⟨e0, e1⟩ := unhide HCL G hG; go_simp) hS ?_
            simp only [Act.put, List.setIfInBounds_toArray, List.set_cons_zero, List.set_cons_succ]
            refine wpAnyL_one (i := 7) (by kernel_rfl) rfl (by rfl) fun K hK => ?_
            refine wp_call_fn 19 _ _ (by rfl) #[.slice tl kl dl, .agg #[.string y1, .string y2]] (by with_unfolding_all rfl) entTM (some 90) (by rfl) _ (asC (unhide HT1 X hS)) ?_
            rintro _ X1 ⟨rfl, hb⟩
            have HS1 : Hid (Below X.heap.size X X1) := (hS : Below X.heap.size X X).trans (hb.mono (Nat.le_refl _))
            clear hb
            refine hK _ _ (fun _ => (unhide HS1)) ?_
            clear hK K
            simp only [Act.put, List.setIfInBounds_toArray, List.set_cons_zero, List.set_cons_succ]
            refine wpAnyL_one (i := 13) (by kernel_rfl) rfl (by rfl) fun K hK => ?_
            refine wp_call_fn 19 _ _ (by rfl) #[.slice ao q cl, .agg #[.string y1, .string y2]] (by with_unfolding_all rfl) entTM (some 96) (by rfl) _ (asC (unhide HT2 X1 (unhide HS1))) ?_
            rintro _ X2 ⟨rfl, hb⟩
            have HS2 : Hid (Below X.heap.size X X2) := (unhide HS1).trans (hb.mono (unhide HS1).size)
            clear hb
            refine hK _ _ (fun _ => (unhide HS2)) ?_
            clear hK K
            simp only [Act.put, List.setIfInBounds_toArray, List.set_cons_zero, List.set_cons_succ]
            refine wpAnyL_one (i := 14) (by kernel_rfl) rfl (by rfl) fun K hK => ?_
            refine wp_val (.bool false) (by go_simp) (some 97) (by rfl) ?_
            refine hK _ _ (fun _ => (unhide HS2)) ?_
            clear hK K
            simp only [Act.put, List.setIfInBounds_toArray, List.set_cons_zero, List.set_cons_succ]
            refine wpAnyL_done (by kernel_rfl) ?_ _
            have HT3 := hide ((unhide HTX).below (unhide HS2))
            clear HCL HT1 HT2 HSL
            go_wp2
            go_roundw
            case rel => exact ⟨j, by omega, rfl, by rw [unhide HNX]; exact HT3⟩
            case measure => simp [intOf]
    · have hc4 : cs > 256 := by omega
      clear hc
      have hr1 : wrap64 ((r : Int) - 1) = (r : Int) - 1 := by simp only [wrap64]; omega
      have hq1 : wrap64 ((q : Int) - 1) = (q : Int) - 1 := by simp only [wrap64]; omega
      go_enter Try.func5, Try.ntmps5
      go_wp2_with (first
        | (go_at_call 17; refine (unhide HW).mono ?_; rintro e W1 ⟨rfl, hb⟩; have HB1 := hide hb; have HO1 := hide (S.Own.empty W1 W1.heap.size (Nat.le_refl _)); have HU1 : Hid (Below u.heap.size u W1) := (by have h := hb; rw [unhide HB] at h; exact h); have HA1 := hide (((unhide HL).below (unhide HU1)).below ((Below.refl W1.heap.size W1).alloc (Nat.le_refl _) (.cells #[] 36))); have HS1 : Hid (W1.heap.size ≤ (W1.alloc (.cells #[] 36)).heap.size) := (by show _ ≤ _; rw [World.size_alloc]; omega); have HE1 := hide ((Below.refl W1.heap.size W1).alloc (Nat.le_refl _) (.cells #[] 36)); clear hb HW)
        | (at_builtin; (with_reducible refine S.wpList_putE (by rfl) (.tmp 26) (.tmp 27) (by rfl) (some 28) (by rfl) W1.heap.size [] l 0 q rfl (unhide HQ) (some ⟨W1.heap.size, 0, none⟩) ao 0 cl (by with_unfolding_all rfl) (by with_unfolding_all rfl) (unhide HO1) (unhide HA1) (unhide HZL) (unhide HS1) ?_); intro x2 n2 c2 W2 HP2; simp only [Act.put, List.setIfInBounds_toArray, List.set_cons_zero, List.set_cons_succ]; have hn2 : q = n2 := ((unhide HP2).len.trans (unhide HQ).symm).symm; subst hn2; have HB2 := hide ((unhide HB1).trans (((unhide HE1).trans (unhide HP2).below).mono (by rw [unhide HB]; exact (unhide HB1).size))); have hof := unhide HKL x2 c2 W2 ((unhide HP2).own.at (by have := unhide HQ; show l.length ≤ _; omega)); rw [← unhide HQ] at hof; have HOF := hide hof; clear hof HO1 HA1 HS1 HE1)
        | (go_at_call 18; refine (unhide HOF).mono ?_; rintro e W3 ⟨a1, g1, rfl, hs, hb, h1, h2⟩; have HS3 := hide hs; have HB3 := hide ((unhide HB2).trans (hb.mono (by rw [unhide HB]; exact (unhide HB2).size))); have HO3 := hide (S.Own.empty W3 W3.heap.size (Nat.le_refl _)); have HU3 : Hid (Below u.heap.size u W3) := (by have h := unhide HB3; rw [unhide HB] at h; exact h); have HA3 := hide (((unhide HM).below (unhide HU3)).below ((Below.refl W3.heap.size W3).alloc (Nat.le_refl _) (.cells #[] 36))); have HZ3 : Hid (W3.heap.size ≤ (W3.alloc (.cells #[] 36)).heap.size) := (by show _ ≤ _; rw [World.size_alloc]; omega); have HE3 := hide ((Below.refl W3.heap.size W3).alloc (Nat.le_refl _) (.cells #[] 36)); clear hs hb h1 h2 HOF)
        | (at_builtin; (with_reducible refine S.wpList_putE (by rfl) (.tmp 34) (.tmp 35) (by rfl) (some 36) (by rfl) W3.heap.size [] m 0 r rfl (unhide HR) (some ⟨W3.heap.size, 0, none⟩) bo 0 cm (by with_unfolding_all rfl) (by with_unfolding_all rfl) (unhide HO3) (unhide HA3) (unhide HZM) (unhide HZ3) ?_); intro x4 n4 c4 W4 HP4; simp only [Act.put, List.setIfInBounds_toArray, List.set_cons_zero, List.set_cons_succ]; have hn4 : r = n4 := ((unhide HP4).len.trans (unhide HR).symm).symm; subst hn4; have HE4 := hide ((unhide HE3).trans (unhide HP4).below); have HB4 := hide ((unhide HB3).trans ((unhide HE4).mono (by rw [unhide HB]; exact (unhide HB3).size))); have HS4 := hide ((unhide HS3).below (unhide HE4)); have hof := unhide HKM x4 c4 W4 ((unhide HP4).own.at (by have := unhide HR; show m.length ≤ _; omega)); rw [← unhide HR] at hof; have HOG := hide hof; clear hof HO3 HA3 HZ3 HE3)
        | (go_at_call 18; refine (unhide HOG).mono ?_; rintro e W5 ⟨a2, g2, rfl, hs, hb, h1, h2⟩; have HT5 := hide hs; have HS5 := hide ((unhide HS4).below hb); have HB5 := hide ((unhide HB4).trans (hb.mono (by rw [unhide HB]; exact (unhide HB4).size))); have HN5 := hide (unhide HN W5); clear hs hb h1 h2 HOG)
        | (go_at_call 12; refine (unhide HN5).mono ?_; rintro e W6 ⟨a6, g6, rfl, hs, hb, h1, h2⟩; have HD6 := hide hs; have HB6 := hide ((unhide HB5).trans (hb.mono (by rw [unhide HB]; exact (unhide HB5).size))); have HG6 : Hid (B ≤ g6) := Nat.le_trans (by rw [unhide HB]; exact (unhide HB5).size) h2; have HMI := hide (kMinus a1 g1 30 a2 g2 30 _ _ W6 ((unhide HS5).below hb) ((unhide HT5).below hb) (by rw [adds_len, adds_len])); clear hs hb h1 h2 HN5)
        | (go_at_call 10; refine (unhide HMI).mono ?_; rintro e W7 ⟨a3, g3, c3, rfl, hs, hb, h1, h2⟩; rw [st_all] at hs; have HTS := hide (mkTw2 (unhide HB) (unhide HB6) hb (unhide HD6) hs (unhide HG6) h1 h2); have HNE := hide (twNe (unhide HD6) h2); clear hs hb h1 h2 HMI)
        | fail)
      clear HD6 HB6 HG6 HT5 HS5 HB5 HB4 HE4 HS4 HB3 HS3 HU3 HB2 HB1 HU1 HKL HKM HN HZL HZM HP2 HP4 hr1
      rw [← stA_nil 30 l] at HTS
      obtain ⟨MB, hMB⟩ : ∃ MB, MB = stB 30 l m l := ⟨_, rfl⟩
      rw [← hMB] at HTS
      have HMB := hide hMB
      clear hMB
      go_loopw [15] (fun sk wr => ∃ i : Nat, i ≤ r ∧ sk = .int .i64 ((i : Int) - 1) ∧ Hid (Tw u wr B a6 g6 30 a3 g3 c3 (stA 30 l (m.drop i)) MB)) (fun sk _ => (intOf sk + 1).toNat)
      case atStart => exact ⟨r, Nat.le_refl _, rfl, by rw [show m.drop r = [] by rw [unhide HR, List.drop_length]]; exact HTS⟩
      case round =>
        clear HTS
        obtain ⟨i, hi, rfl, HT⟩ := hrel
        cases i with
        | zero =>
          rw [List.drop_zero] at HT
          have hm1 : ¬ (0 : Int) ≤ ((0 : Nat) : Int) - 1 := by decide
          go_wp2
          clear hm1
          have HTS := HT
          rw [← stB_nil] at HTS
          clear HT
          go_loopw [16] (fun sk wr => ∃ i : Nat, i ≤ q ∧ sk = .int .i64 ((i : Int) - 1) ∧ Hid (Tw u wr B a6 g6 30 a3 g3 c3 (stB 30 l m (l.drop i)) MB)) (fun sk _ => (intOf sk + 1).toNat)
          case atStart => exact ⟨q, Nat.le_refl _, rfl, by rw [show l.drop q = [] by rw [unhide HQ, List.drop_length]]; exact HTS⟩
          case round =>
            clear HTS
            obtain ⟨i, hi, rfl, HT⟩ := hrel
            cases i with
            | zero =>
              rw [List.drop_zero] at HT
              have hm1 : ¬ (0 : Int) ≤ ((0 : Nat) : Int) - 1 := by decide
              have hcu := kCells (unhide HT).t
              have HLU : Hid (MB.length = 30) := (by show _ = _; rw [unhide HMB]; unfold stB; rw [zip_len, zerL_len])
              have HCU := hide hcu
              clear hcu
              go_wp2_with (first
                | (go_at_call 13; refine (unhide HCU).mono ?_; rintro e Y1 ⟨xo, cx, rfl, ho, hb⟩; have HY1 := hide ho; have HT1 := hide ((unhide HT).below hb); have HCD := hide (kCells (unhide HT1).s); clear ho hb HCU)
                | (go_at_call 13; refine (unhide HCD).mono ?_; rintro e Y2 ⟨yo, cy, rfl, ho, hb⟩; have hsm := lSameC _ _ xo yo cx cy Y2 (((unhide HY1).below hb).at (by rw [unhide HLU]; omega)) (ho.at (by rw [← unhide HMB, unhide HLU]; omega)); rw [decide_eq_true (unhide HMB)] at hsm; have HSM := hide hsm; have HT2 := hide ((unhide HT1).below hb); clear ho hb hsm HCD)
                | (go_at_call 20; refine (unhide HSM).mono ?_; rintro e Y3 ⟨rfl, z, hz⟩; have HB9 : Hid (Below B u Y3) := (by rw [hz]; exact S.belowDrewN (unhide HT2).bel z); clear hz HSM)
                | fail)
              go_ret
              exact ⟨rfl, unhide HB9⟩
            | succ j =>
              have e1 : (((j + 1 : Nat) : Int) - 1) = (j : Int) := by omega
              rw [e1]
              have hjj : (0 : Int) ≤ (j : Int) := by omega
              have hjq : (j : Int) < (q : Int) := by omega
              have hjl : j < l.length := by rw [← unhide HQ]; omega
              have hw : wrap64 ((j : Int) - 1) = (j : Int) - 1 := by simp only [wrap64]; omega
              have HDR := hide (drop_at hjl)
              have HIT := hide (fun w => unhide HIL l[j] (List.getElem_mem hjl) w)
              have HBX : Hid (Below u.heap.size u wr.drew) := by have hb := S.belowDrew (unhide HT).bel; rw [unhide HB] at hb; exact hb
              have HTX := hide ((unhide HT).below (S.belowDrew (Below.refl _ _)))
              obtain ⟨tl, kl, dl, HSL, HKL2, HTA⟩ : ∃ tl kl dl, Hid (∀ W : World, (Instr.slice 40 (.slice ao q cl) (some (.int .i64 (j : Int))) none none).run Try.prog W = .ok (.slice tl kl dl) W) ∧ Hid (kl = (l.drop j).length) ∧ Hid (∀ G, Below wr.drew.heap.size wr.drew G → RE.At G (l.drop j) tl dl) := by
                have h := fun G (hG : Below wr.drew.heap.size wr.drew G) => S.Rec.tail RE (((unhide HL).below (unhide HBX)).below hG) j (by omega)
                have h2 := (h wr.drew (Below.refl _ _)).2
                rw [← unhide HQ] at h2
                exact ⟨_, _, _, h2, by show _ = _; rw [List.length_drop, ← unhide HQ], fun G hG => (h G hG).1⟩
              obtain ⟨g5, o5, hxo, ix1, a0, a1⟩ := at_ixE ((unhide HL).below (unhide HBX)) j hjl
              rw [← unhide HQ] at ix1
              have HCL : Hid (∀ G, Below wr.drew.heap.size wr.drew G → G.cell? ⟨g5, o5 + j * 2, none⟩ = some (.string l[j].1) ∧ G.cell? ⟨g5, o5 + j * 2 + 1, none⟩ = some (.string l[j].2)) := fun G hG => by
                obtain ⟨g9, o9, h9, -, b0, b1⟩ := at_ixE (((unhide HL).below (unhide HBX)).below hG) j hjl
                rw [hxo] at h9
                cases h9
                exact ⟨b0, b1⟩
              have hT1 := fun G hG => lTimes (l.drop j) tl dl l[j] G (unhide HTA G hG)
              rw [← unhide HKL2] at hT1
              have hT2 := fun G (hG : Below wr.drew.heap.size wr.drew G) => lTimes m bo cm l[j] G (((unhide HM).below (unhide HBX)).below hG)
              rw [← unhide HR] at hT2
              have HYE := hide (fun hh => stB_yes 30 l m (l.drop (j + 1)) (l[j]'hjl) hh)
              have HNO := hide (fun hh => stB_no 30 l m (l.drop (j + 1)) (l[j]'hjl) hh)
              rw [unhide HDR] at hT1
              generalize l[j] = y at *
              rw [← unhide HDR] at hT1 HYE HNO
              obtain ⟨v1, hv1⟩ : ∃ v1, v1 = cnt (l.drop j) y := ⟨_, rfl⟩
              obtain ⟨v2, hv2⟩ : ∃ v2, v2 = cnt m y := ⟨_, rfl⟩
              rw [← hv1] at hT1 HYE HNO
              rw [← hv2] at hT2 HYE HNO
              have HT1 := hide hT1
              have HT2 := hide hT2
              obtain ⟨y1, y2⟩ := y
              replace HIT : Hid (∀ w, Calls Try.prog 14 #[.agg #[.string y1, .string y2]] w fun e u' => e = .returned (.int .u64 (itB (y1, y2)).toNat) ∧ Below w.heap.size w u') := HIT
              clear hT1 hT2 hv1 hv2 hjl hxo a0 a1 HDR HTA HKL2 e1
              generalize itB (y1, y2) = x at *
              have HBW := hide (unhide HT).bel
              clear HBW
              obtain ⟨bb, hbb⟩ : ∃ bb : Bool, bb = decide ((v2 : Int) < (v1 : Int)) := ⟨_, rfl⟩
              have HBB := hide hbb
              by_cases hv : v2 < v1
              · have hvi : (v1 : Int) > (v2 : Int) := by omega
                obtain rfl : bb = true := by rw [hbb]; exact decide_eq_true hvi
                have HNX := hide (unhide HYE hv)
                clear hbb hv HYE HNO HBB
                go_wp2
                refine wp_region_last (fun G => Below wr.drew.heap.size wr.drew G) 14 hmix (Below.refl _ _) fun hS => ?_
                generalize wr.drew = X at *
                refine wpAnyL_take 0 112 (.slice ao q cl) [2, 7] rfl rfl (by kernel_rfl) (by kernel_rfl) (by kernel_rfl) (by kernel_rfl) (by kernel_rfl) (fun _ _ _ h => h) (by rfl) (fun _ _ => by go_simp) hS ?_
                simp only [Act.put, List.setIfInBounds_toArray, List.set_cons_zero, List.set_cons_succ]
                refine wpAnyL_take 1 113 (.int .i64 (j : Int)) [2, 7] rfl rfl (by kernel_rfl) (by kernel_rfl) (by kernel_rfl) (by kernel_rfl) (by kernel_rfl) (fun _ _ _ h => h) (by rfl) (fun _ _ => by go_simp) hS ?_
                simp only [Act.put, List.setIfInBounds_toArray, List.set_cons_zero, List.set_cons_succ]
                refine wpAnyL_take 2 114 (.slice tl kl dl) [7] rfl rfl (by kernel_rfl) (by kernel_rfl) (by kernel_rfl) (by kernel_rfl) (by kernel_rfl) (fun _ _ _ h => h) (by rfl) (fun G _ => by have h := unhide HSL G; go_simp) hS ?_
                simp only [Act.put, List.setIfInBounds_toArray, List.set_cons_zero, List.set_cons_succ]
                refine wpAnyL_take 3 115 (.slice ao q cl) [5, 6, 7] rfl rfl (by kernel_rfl) (by kernel_rfl) (by kernel_rfl) (by kernel_rfl) (by kernel_rfl) (fun _ _ _ h => h) (by rfl) (fun _ _ => by go_simp) hS ?_
                simp only [Act.put, List.setIfInBounds_toArray, List.set_cons_zero, List.set_cons_succ]
                refine wpAnyL_take 4 116 (.int .i64 (j : Int)) [5, 6, 7] rfl rfl (by kernel_rfl) (by kernel_rfl) (by kernel_rfl) (by kernel_rfl) (by kernel_rfl) (fun _ _ _ h => h) (by rfl) (fun _ _ => by go_simp) hS ?_
                simp only [Act.put, List.setIfInBounds_toArray, List.set_cons_zero, List.set_cons_succ]
                refine wpAnyL_take 5 117 (.pointer (some ⟨g5, o5 + j * 2, none⟩)) [6, 7] rfl rfl (by kernel_rfl) (by kernel_rfl) (by kernel_rfl) (by kernel_rfl) (by kernel_rfl) (fun _ _ _ h => h) (by rfl) (fun _ _ => by go_simp) hS ?_
                simp only [Act.put, List.setIfInBounds_toArray, List.set_cons_zero, List.set_cons_succ]
                refine wpAnyL_take 6 118 (.agg #[.string y1, .string y2]) [7] rfl rfl (by kernel_rfl) (by kernel_rfl) (by kernel_rfl) (by kernel_rfl) (by kernel_rfl) (fun _ _ _ h => h) (by rfl) (fun G hG => by obtain ⟨e0, e1⟩ := unhide HCL G hG; go_simp) hS ?_
                simp only [Act.put, List.setIfInBounds_toArray, List.set_cons_zero, List.set_cons_succ]
                refine wpAnyL_take 8 120 (.slice bo r cm) [13] rfl rfl (by kernel_rfl) (by kernel_rfl) (by kernel_rfl) (by kernel_rfl) (by kernel_rfl) (fun _ _ _ h => h) (by rfl) (fun _ _ => by go_simp) hS ?_
                simp only [Act.put, List.setIfInBounds_toArray, List.set_cons_zero, List.set_cons_succ]
                refine wpAnyL_take 9 121 (.slice ao q cl) [11, 12, 13] rfl rfl (by kernel_rfl) (by kernel_rfl) (by kernel_rfl) (by kernel_rfl) (by kernel_rfl) (fun _ _ _ h => h) (by rfl) (fun _ _ => by go_simp) hS ?_
                simp only [Act.put, List.setIfInBounds_toArray, List.set_cons_zero, List.set_cons_succ]
                refine wpAnyL_take 10 122 (.int .i64 (j : Int)) [11, 12, 13] rfl rfl (by kernel_rfl) (by kernel_rfl) (by kernel_rfl) (by kernel_rfl) (by kernel_rfl) (fun _ _ _ h => h) (by rfl) (fun _ _ => by go_simp) hS ?_
                simp only [Act.put, List.setIfInBounds_toArray, List.set_cons_zero, List.set_cons_succ]
                refine wpAnyL_take 11 123 (.pointer (some ⟨g5, o5 + j * 2, none⟩)) [12, 13] rfl rfl (by kernel_rfl) (by kernel_rfl) (by kernel_rfl) (by kernel_rfl) (by kernel_rfl) (fun _ _ _ h => h) (by rfl) (fun _ _ => by go_simp) hS ?_
                simp only [Act.put, List.setIfInBounds_toArray, List.set_cons_zero, List.set_cons_succ]
                refine wpAnyL_take 12 124 (.agg #[.string y1, .string y2]) [13] rfl rfl (by kernel_rfl) (by kernel_rfl) (by kernel_rfl) (by kernel_rfl) (by kernel_rfl) (fun _ _ _ h => h) (by rfl) (fun G hG => by obtain ⟨e0, e1⟩ := unhide HCL G hG; go_simp) hS ?_
                simp only [Act.put, List.setIfInBounds_toArray, List.set_cons_zero, List.set_cons_succ]
                refine wpAnyL_one (i := 7) (by kernel_rfl) rfl (by rfl) fun K hK => ?_
                refine wp_call_fn 19 _ _ (by rfl) #[.slice tl kl dl, .agg #[.string y1, .string y2]] (by with_unfolding_all rfl) entTM (some 119) (by rfl) _ (asC (unhide HT1 X hS)) ?_
                rintro _ X1 ⟨rfl, hb⟩
                have HS1 : Hid (Below X.heap.size X X1) := (hS : Below X.heap.size X X).trans (hb.mono (Nat.le_refl _))
                clear hb
                refine hK _ _ (fun _ => (unhide HS1)) ?_
                clear hK K
                simp only [Act.put, List.setIfInBounds_toArray, List.set_cons_zero, List.set_cons_succ]
                refine wpAnyL_one (i := 13) (by kernel_rfl) rfl (by rfl) fun K hK => ?_
                refine wp_call_fn 19 _ _ (by rfl) #[.slice bo r cm, .agg #[.string y1, .string y2]] (by with_unfolding_all rfl) entTM (some 125) (by rfl) _ (asC (unhide HT2 X1 (unhide HS1))) ?_
                rintro _ X2 ⟨rfl, hb⟩
                have HS2 : Hid (Below X.heap.size X X2) := (unhide HS1).trans (hb.mono (unhide HS1).size)
                clear hb
                refine hK _ _ (fun _ => (unhide HS2)) ?_
                clear hK K
                simp only [Act.put, List.setIfInBounds_toArray, List.set_cons_zero, List.set_cons_succ]
                refine wpAnyL_one (i := 14) (by kernel_rfl) rfl (by rfl) fun K hK => ?_
                refine wp_val (.bool true) (by go_simp) (some 126) (by rfl) ?_
                refine hK _ _ (fun _ => (unhide HS2)) ?_
                clear hK K
                simp only [Act.put, List.setIfInBounds_toArray, List.set_cons_zero, List.set_cons_succ]
                refine wpAnyL_done (by kernel_rfl) ?_ _
                generalize X2 = X3 at *
                have HT3 := hide ((unhide HTX).below (unhide HS2))
                obtain ⟨g8, o8, hxo8, ix8, b0, b1⟩ : ∃ g8 o8, some (⟨g5, o5, none⟩ : Addr) = some ⟨g8, o8, none⟩ ∧ True ∧ X3.cell? ⟨g5, o5 + j * 2, none⟩ = some (.string y1) ∧ X3.cell? ⟨g5, o5 + j * 2 + 1, none⟩ = some (.string y2) := ⟨g5, o5, rfl, trivial, (unhide HCL X3 (unhide HS2)).1, (unhide HCL X3 (unhide HS2)).2⟩
                clear hxo8 ix8 HCL HT1 HT2 HSL
                go_wp2_with (first
                  | (go_at_call 14; refine (unhide HIT _).mono ?_; rintro e X4 ⟨rfl, hb⟩; have HT4 := hide ((unhide HT3).below hb); have HAD := hide (kAdd x (unhide HT4).s); clear hb HIT)
                  | (go_at_call 8; refine (unhide HAD).mono ?_; rintro e X5 ⟨rfl, ha, hs⟩; have HT5 := hide ((unhide HT4).layS (unhide HNE) ha hs); clear ha hs HAD)
                  | fail)
                go_roundw
                case rel => exact ⟨j, by omega, rfl, by rw [unhide HNX]; exact HT5⟩
                case measure => simp [intOf]
              · have hvi : ¬ (v1 : Int) > (v2 : Int) := by omega
                have hvn : v1 ≤ v2 := by omega
                obtain rfl : bb = false := by rw [hbb]; exact decide_eq_false (by omega)
                have HNX := hide (unhide HNO hv)
                clear hbb hv HYE HNO HBB
                go_wp2
                refine wp_region_last (fun G => Below wr.drew.heap.size wr.drew G) 14 hmix (Below.refl _ _) fun hS => ?_
                generalize wr.drew = X at *
                refine wpAnyL_take 0 112 (.slice ao q cl) [2, 7] rfl rfl (by kernel_rfl) (by kernel_rfl) (by kernel_rfl) (by kernel_rfl) (by kernel_rfl) (fun _ _ _ h => h) (by rfl) (fun _ _ => by go_simp) hS ?_
                simp only [Act.put, List.setIfInBounds_toArray, List.set_cons_zero, List.set_cons_succ]
                refine wpAnyL_take 1 113 (.int .i64 (j : Int)) [2, 7] rfl rfl (by kernel_rfl) (by kernel_rfl) (by kernel_rfl) (by kernel_rfl) (by kernel_rfl) (fun _ _ _ h => h) (by rfl) (fun _ _ => by go_simp) hS ?_
                simp only [Act.put, List.setIfInBounds_toArray, List.set_cons_zero, List.set_cons_succ]
                refine wpAnyL_take 2 114 (.slice tl kl dl) [7] rfl rfl (by kernel_rfl) (by kernel_rfl) (by kernel_rfl) (by kernel_rfl) (by kernel_rfl) (fun _ _ _ h => h) (by rfl) (fun G _ => by have h := unhide HSL G; go_simp) hS ?_
                simp only [Act.put, List.setIfInBounds_toArray, List.set_cons_zero, List.set_cons_succ]
                refine wpAnyL_take 3 115 (.slice ao q cl) [5, 6, 7] rfl rfl (by kernel_rfl) (by kernel_rfl) (by kernel_rfl) (by kernel_rfl) (by kernel_rfl) (fun _ _ _ h => h) (by rfl) (fun _ _ => by go_simp) hS ?_
                simp only [Act.put, List.setIfInBounds_toArray, List.set_cons_zero, List.set_cons_succ]
                refine wpAnyL_take 4 116 (.int .i64 (j : Int)) [5, 6, 7] rfl rfl (by kernel_rfl) (by kernel_rfl) (by kernel_rfl) (by kernel_rfl) (by kernel_rfl) (fun _ _ _ h => h) (by rfl) (fun _ _ => by go_simp) hS ?_
                simp only [Act.put, List.setIfInBounds_toArray, List.set_cons_zero, List.set_cons_succ]
                refine wpAnyL_take 5 117 (.pointer (some ⟨g5, o5 + j * 2, none⟩)) [6, 7] rfl rfl (by kernel_rfl) (by kernel_rfl) (by kernel_rfl) (by kernel_rfl) (by kernel_rfl) (fun _ _ _ h => h) (by rfl) (fun _ _ => by go_simp) hS ?_
                simp only [Act.put, List.setIfInBounds_toArray, List.set_cons_zero, List.set_cons_succ]
                refine wpAnyL_take 6 118 (.agg #[.string y1, .string y2]) [7] rfl rfl (by kernel_rfl) (by kernel_rfl) (by kernel_rfl) (by kernel_rfl) (by kernel_rfl) (fun _ _ _ h => h) (by rfl) (fun G hG => by obtain ⟨e0, e1⟩ := unhide HCL G hG; go_simp) hS ?_
                simp only [Act.put, List.setIfInBounds_toArray, List.set_cons_zero, List.set_cons_succ]
                refine wpAnyL_take 8 120 (.slice bo r cm) [13] rfl rfl (by kernel_rfl) (by kernel_rfl) (by kernel_rfl) (by kernel_rfl) (by kernel_rfl) (fun _ _ _ h => h) (by rfl) (fun _ _ => by go_simp) hS ?_
                simp only [Act.put, List.setIfInBounds_toArray, List.set_cons_zero, List.set_cons_succ]
                refine wpAnyL_take 9 121 (.slice ao q cl) [11, 12, 13] rfl rfl (by kernel_rfl) (by kernel_rfl) (by kernel_rfl) (by kernel_rfl) (by kernel_rfl) (fun _ _ _ h => h) (by rfl) (fun _ _ => by go_simp) hS ?_
                simp only [Act.put, List.setIfInBounds_toArray, List.set_cons_zero, List.set_cons_succ]
                refine wpAnyL_take 10 122 (.int .i64 (j : Int)) [11, 12, 13] rfl rfl (by kernel_rfl) (by kernel_rfl) (by kernel_rfl) (by kernel_rfl) (by kernel_rfl) (fun _ _ _ h => h) (by rfl) (fun _ _ => by go_simp) hS ?_
                simp only [Act.put, List.setIfInBounds_toArray, List.set_cons_zero, List.set_cons_succ]
                refine wpAnyL_take 11 123 (.pointer (some ⟨g5, o5 + j * 2, none⟩)) [12, 13] rfl rfl (by kernel_rfl) (by kernel_rfl) (by kernel_rfl) (by kernel_rfl) (by kernel_rfl) (fun _ _ _ h => h) (by rfl) (fun _ _ => by go_simp) hS ?_
                simp only [Act.put, List.setIfInBounds_toArray, List.set_cons_zero, List.set_cons_succ]
                refine wpAnyL_take 12 124 (.agg #[.string y1, .string y2]) [13] rfl rfl (by kernel_rfl) (by kernel_rfl) (by kernel_rfl) (by kernel_rfl) (by kernel_rfl) (fun _ _ _ h => h) (by rfl) (fun G hG => by obtain ⟨e0, e1⟩ := unhide HCL G hG; go_simp) hS ?_
                simp only [Act.put, List.setIfInBounds_toArray, List.set_cons_zero, List.set_cons_succ]
                refine wpAnyL_one (i := 7) (by kernel_rfl) rfl (by rfl) fun K hK => ?_
                refine wp_call_fn 19 _ _ (by rfl) #[.slice tl kl dl, .agg #[.string y1, .string y2]] (by with_unfolding_all rfl) entTM (some 119) (by rfl) _ (asC (unhide HT1 X hS)) ?_
                rintro _ X1 ⟨rfl, hb⟩
                have HS1 : Hid (Below X.heap.size X X1) := (hS : Below X.heap.size X X).trans (hb.mono (Nat.le_refl _))
                clear hb
                refine hK _ _ (fun _ => (unhide HS1)) ?_
                clear hK K
                simp only [Act.put, List.setIfInBounds_toArray, List.set_cons_zero, List.set_cons_succ]
                refine wpAnyL_one (i := 13) (by kernel_rfl) rfl (by rfl) fun K hK => ?_
                refine wp_call_fn 19 _ _ (by rfl) #[.slice bo r cm, .agg #[.string y1, .string y2]] (by with_unfolding_all rfl) entTM (some 125) (by rfl) _ (asC (unhide HT2 X1 (unhide HS1))) ?_
                rintro _ X2 ⟨rfl, hb⟩
                have HS2 : Hid (Below X.heap.size X X2) := (unhide HS1).trans (hb.mono (unhide HS1).size)
                clear hb
                refine hK _ _ (fun _ => (unhide HS2)) ?_
                clear hK K
                simp only [Act.put, List.setIfInBounds_toArray, List.set_cons_zero, List.set_cons_succ]
                refine wpAnyL_one (i := 14) (by kernel_rfl) rfl (by rfl) fun K hK => ?_
                refine wp_val (.bool false) (by go_simp) (some 126) (by rfl) ?_
                refine hK _ _ (fun _ => (unhide HS2)) ?_
                clear hK K
                simp only [Act.put, List.setIfInBounds_toArray, List.set_cons_zero, List.set_cons_succ]
                refine wpAnyL_done (by kernel_rfl) ?_ _
                have HT3 := hide ((unhide HTX).below (unhide HS2))
                clear HCL HT1 HT2 HSL
                go_wp2
                go_roundw
                case rel => exact ⟨j, by omega, rfl, by rw [unhide HNX]; exact HT3⟩
                case measure => simp [intOf]
        | succ j =>
          have e1 : (((j + 1 : Nat) : Int) - 1) = (j : Int) := by omega
          rw [e1]
          have hjj : (0 : Int) ≤ (j : Int) := by omega
          have hjq : (j : Int) < (r : Int) := by omega
          have hjl : j < m.length := by rw [← unhide HR]; omega
          have hw : wrap64 ((j : Int) - 1) = (j : Int) - 1 := by simp only [wrap64]; omega
          have HDR := hide (drop_at hjl)
          have HIT := hide (fun w => unhide HIM m[j] (List.getElem_mem hjl) w)
          have HBX : Hid (Below u.heap.size u wr.drew) := by have hb := S.belowDrew (unhide HT).bel; rw [unhide HB] at hb; exact hb
          have HTX := hide ((unhide HT).below (S.belowDrew (Below.refl _ _)))
          obtain ⟨tl, kl, dl, HSL, HKL2, HTA⟩ : ∃ tl kl dl, Hid (∀ W : World, (Instr.slice 40 (.slice bo r cm) (some (.int .i64 (j : Int))) none none).run Try.prog W = .ok (.slice tl kl dl) W) ∧ Hid (kl = (m.drop j).length) ∧ Hid (∀ G, Below wr.drew.heap.size wr.drew G → RE.At G (m.drop j) tl dl) := by
            have h := fun G (hG : Below wr.drew.heap.size wr.drew G) => S.Rec.tail RE (((unhide HM).below (unhide HBX)).below hG) j (by omega)
            have h2 := (h wr.drew (Below.refl _ _)).2
            rw [← unhide HR] at h2
            exact ⟨_, _, _, h2, by show _ = _; rw [List.length_drop, ← unhide HR], fun G hG => (h G hG).1⟩
          obtain ⟨g5, o5, hxo, ix1, a0, a1⟩ := at_ixE ((unhide HM).below (unhide HBX)) j hjl
          rw [← unhide HR] at ix1
          have HCL : Hid (∀ G, Below wr.drew.heap.size wr.drew G → G.cell? ⟨g5, o5 + j * 2, none⟩ = some (.string m[j].1) ∧ G.cell? ⟨g5, o5 + j * 2 + 1, none⟩ = some (.string m[j].2)) := fun G hG => by
            obtain ⟨g9, o9, h9, -, b0, b1⟩ := at_ixE (((unhide HM).below (unhide HBX)).below hG) j hjl
            rw [hxo] at h9
            cases h9
            exact ⟨b0, b1⟩
          have hT1 := fun G hG => lTimes (m.drop j) tl dl m[j] G (unhide HTA G hG)
          rw [← unhide HKL2] at hT1
          have hT2 := fun G (hG : Below wr.drew.heap.size wr.drew G) => lTimes l ao cl m[j] G (((unhide HL).below (unhide HBX)).below hG)
          rw [← unhide HQ] at hT2
          have HYE := hide (fun hh => stA_yes 30 l (m.drop (j + 1)) (m[j]'hjl) hh)
          have HNO := hide (fun hh => stA_no 30 l (m.drop (j + 1)) (m[j]'hjl) hh)
          rw [unhide HDR] at hT1
          generalize m[j] = y at *
          rw [← unhide HDR] at hT1 HYE HNO
          obtain ⟨v1, hv1⟩ : ∃ v1, v1 = cnt (m.drop j) y := ⟨_, rfl⟩
          obtain ⟨v2, hv2⟩ : ∃ v2, v2 = cnt l y := ⟨_, rfl⟩
          rw [← hv1] at hT1 HYE HNO
          rw [← hv2] at hT2 HYE HNO
          have HT1 := hide hT1
          have HT2 := hide hT2
          obtain ⟨y1, y2⟩ := y
          replace HIT : Hid (∀ w, Calls Try.prog 14 #[.agg #[.string y1, .string y2]] w fun e u' => e = .returned (.int .u64 (itB (y1, y2)).toNat) ∧ Below w.heap.size w u') := HIT
          clear hT1 hT2 hv1 hv2 hjl hxo a0 a1 HDR HTA HKL2 e1
          generalize itB (y1, y2) = x at *
          have HBW := hide (unhide HT).bel
          clear HBW
          obtain ⟨bb, hbb⟩ : ∃ bb : Bool, bb = decide ((v2 : Int) < (v1 : Int)) := ⟨_, rfl⟩
          have HBB := hide hbb
          by_cases hv : v2 < v1
          · have hvi : (v1 : Int) > (v2 : Int) := by omega
            obtain rfl : bb = true := by rw [hbb]; exact decide_eq_true hvi
            have HNX := hide (unhide HYE hv)
            clear hbb hv HYE HNO HBB
            go_wp2
            refine wp_region_last (fun G => Below wr.drew.heap.size wr.drew G) 14 hmix (Below.refl _ _) fun hS => ?_
            generalize wr.drew = X at *
            refine wpAnyL_take 0 83 (.slice bo r cm) [2, 7] rfl rfl (by kernel_rfl) (by kernel_rfl) (by kernel_rfl) (by kernel_rfl) (by kernel_rfl) (fun _ _ _ h => h) (by rfl) (fun _ _ => by go_simp) hS ?_
            simp only [Act.put, List.setIfInBounds_toArray, List.set_cons_zero, List.set_cons_succ]
            refine wpAnyL_take 1 84 (.int .i64 (j : Int)) [2, 7] rfl rfl (by kernel_rfl) (by kernel_rfl) (by kernel_rfl) (by kernel_rfl) (by kernel_rfl) (fun _ _ _ h => h) (by rfl) (fun _ _ => by go_simp) hS ?_
            simp only [Act.put, List.setIfInBounds_toArray, List.set_cons_zero, List.set_cons_succ]
            refine wpAnyL_take 2 85 (.slice tl kl dl) [7] rfl rfl (by kernel_rfl) (by kernel_rfl) (by kernel_rfl) (by kernel_rfl) (by kernel_rfl) (fun _ _ _ h => h) (by rfl) (fun G _ => by have h := unhide HSL G; go_simp) hS ?_
            simp only [Act.put, List.setIfInBounds_toArray, List.set_cons_zero, List.set_cons_succ]
            refine wpAnyL_take 3 86 (.slice bo r cm) [5, 6, 7] rfl rfl (by kernel_rfl) (by kernel_rfl) (by kernel_rfl) (by kernel_rfl) (by kernel_rfl) (fun _ _ _ h => h) (by rfl) (fun _ _ => by go_simp) hS ?_
            simp only [Act.put, List.setIfInBounds_toArray, List.set_cons_zero, List.set_cons_succ]
            refine wpAnyL_take 4 87 (.int .i64 (j : Int)) [5, 6, 7] rfl rfl (by kernel_rfl) (by kernel_rfl) (by kernel_rfl) (by kernel_rfl) (by kernel_rfl) (fun _ _ _ h => h) (by rfl) (fun _ _ => by go_simp) hS ?_
            simp only [Act.put, List.setIfInBounds_toArray, List.set_cons_zero, List.set_cons_succ]
            refine wpAnyL_take 5 88 (.pointer (some ⟨g5, o5 + j * 2, none⟩)) [6, 7] rfl rfl (by kernel_rfl) (by kernel_rfl) (by kernel_rfl) (by kernel_rfl) (by kernel_rfl) (fun _ _ _ h => h) (by rfl) (fun _ _ => by go_simp) hS ?_
            simp only [Act.put, List.setIfInBounds_toArray, List.set_cons_zero, List.set_cons_succ]
            refine wpAnyL_take 6 89 (.agg #[.string y1, .string y2]) [7] rfl rfl (by kernel_rfl) (by kernel_rfl) (by kernel_rfl) (by kernel_rfl) (by kernel_rfl) (fun _ _ _ h => h) (by rfl) (fun G hG => by obtain ⟨e0, e1⟩ := unhide HCL G hG; go_simp) hS ?_
            simp only [Act.put, List.setIfInBounds_toArray, List.set_cons_zero, List.set_cons_succ]
            refine wpAnyL_take 8 91 (.slice ao q cl) [13] rfl rfl (by kernel_rfl) (by kernel_rfl) (by kernel_rfl) (by kernel_rfl) (by kernel_rfl) (fun _ _ _ h => h) (by rfl) (fun _ _ => by go_simp) hS ?_
            simp only [Act.put, List.setIfInBounds_toArray, List.set_cons_zero, List.set_cons_succ]
            refine wpAnyL_take 9 92 (.slice bo r cm) [11, 12, 13] rfl rfl (by kernel_rfl) (by kernel_rfl) (by kernel_rfl) (by kernel_rfl) (by kernel_rfl) (fun _ _ _ h => h) (by rfl) (fun _ _ => by go_simp) hS ?_
            simp only [Act.put, List.setIfInBounds_toArray, List.set_cons_zero, List.set_cons_succ]
            refine wpAnyL_take 10 93 (.int .i64 (j : Int)) [11, 12, 13] rfl rfl (by kernel_rfl) (by kernel_rfl) (by kernel_rfl) (by kernel_rfl) (by kernel_rfl) (fun _ _ _ h => h) (by rfl) (fun _ _ => by go_simp) hS ?_
            simp only [Act.put, List.setIfInBounds_toArray, List.set_cons_zero, List.set_cons_succ]
            refine wpAnyL_take 11 94 (.pointer (some ⟨g5, o5 + j * 2, none⟩)) [12, 13] rfl rfl (by kernel_rfl) (by kernel_rfl) (by kernel_rfl) (by kernel_rfl) (by kernel_rfl) (fun _ _ _ h => h) (by rfl) (fun _ _ => by go_simp) hS ?_
            simp only [Act.put, List.setIfInBounds_toArray, List.set_cons_zero, List.set_cons_succ]
            refine wpAnyL_take 12 95 (.agg #[.string y1, .string y2]) [13] rfl rfl (by kernel_rfl) (by kernel_rfl) (by kernel_rfl) (by kernel_rfl) (by kernel_rfl) (fun _ _ _ h => h) (by rfl) (fun G hG => by obtain ⟨e0, e1⟩ := unhide HCL G hG; go_simp) hS ?_
            simp only [Act.put, List.setIfInBounds_toArray, List.set_cons_zero, List.set_cons_succ]
            refine wpAnyL_one (i := 7) (by kernel_rfl) rfl (by rfl) fun K hK => ?_
            refine wp_call_fn 19 _ _ (by rfl) #[.slice tl kl dl, .agg #[.string y1, .string y2]] (by with_unfolding_all rfl) entTM (some 90) (by rfl) _ (asC (unhide HT1 X hS)) ?_
            rintro _ X1 ⟨rfl, hb⟩
            have HS1 : Hid (Below X.heap.size X X1) := (hS : Below X.heap.size X X).trans (hb.mono (Nat.le_refl _))
            clear hb
            refine hK _ _ (fun _ => (unhide HS1)) ?_
            clear hK K
            simp only [Act.put, List.setIfInBounds_toArray, List.set_cons_zero, List.set_cons_succ]
            refine wpAnyL_one (i := 13) (by kernel_rfl) rfl (by rfl) fun K hK => ?_
            refine wp_call_fn 19 _ _ (by rfl) #[.slice ao q cl, .agg #[.string y1, .string y2]] (by with_unfolding_all rfl) entTM (some 96) (by rfl) _ (asC (unhide HT2 X1 (unhide HS1))) ?_
            rintro _ X2 ⟨rfl, hb⟩
            have HS2 : Hid (Below X.heap.size X X2) := (unhide HS1).trans (hb.mono (unhide HS1).size)
            clear hb
            refine hK _ _ (fun _ => (unhide HS2)) ?_
            clear hK K
            simp only [Act.put, List.setIfInBounds_toArray, List.set_cons_zero, List.set_cons_succ]
            refine wpAnyL_one (i := 14) (by kernel_rfl) rfl (by rfl) fun K hK => ?_
            refine wp_val (.bool true) (by go_simp) (some 97) (by rfl) ?_
            refine hK _ _ (fun _ => (unhide HS2)) ?_
            clear hK K
            simp only [Act.put, List.setIfInBounds_toArray, List.set_cons_zero, List.set_cons_succ]
            refine wpAnyL_done (by kernel_rfl) ?_ _
            generalize X2 = X3 at *
            have HT3 := hide ((unhide HTX).below (unhide HS2))
            obtain ⟨g8, o8, hxo8, ix8, b0, b1⟩ : ∃ g8 o8, some (⟨g5, o5, none⟩ : Addr) = some ⟨g8, o8, none⟩ ∧ True ∧ X3.cell? ⟨g5, o5 + j * 2, none⟩ = some (.string y1) ∧ X3.cell? ⟨g5, o5 + j * 2 + 1, none⟩ = some (.string y2) := ⟨g5, o5, rfl, trivial, (unhide HCL X3 (unhide HS2)).1, (unhide HCL X3 (unhide HS2)).2⟩
            clear hxo8 ix8 HCL HT1 HT2 HSL
            go_wp2_with (first
              | (go_at_call 14; refine (unhide HIT _).mono ?_; rintro e X4 ⟨rfl, hb⟩; have HT4 := hide ((unhide HT3).below hb); have HAD := hide (kTake x (unhide HT4).s); clear hb HIT)
              | (go_at_call 9; refine (unhide HAD).mono ?_; rintro e X5 ⟨rfl, ha, hs⟩; have HT5 := hide ((unhide HT4).layS (unhide HNE) ha hs); clear ha hs HAD)
              | fail)
            go_roundw
            case rel => exact ⟨j, by omega, rfl, by rw [unhide HNX]; exact HT5⟩
            case measure => simp [intOf]
          · have hvi : ¬ (v1 : Int) > (v2 : Int) := by omega
            have hvn : v1 ≤ v2 := by omega
            obtain rfl : bb = false := by rw [hbb]; exact decide_eq_false (by omega)
            have HNX := hide (unhide HNO hv)
            clear hbb hv HYE HNO HBB
            go_wp2
            refine wp_region_last (fun G => Below wr.drew.heap.size wr.drew G) 14 hmix (Below.refl _ _) fun hS => ?_
            generalize wr.drew = X at *
            refine wpAnyL_take 0 83 (.slice bo r cm) [2, 7] rfl rfl (by kernel_rfl) (by kernel_rfl) (by kernel_rfl) (by kernel_rfl) (by kernel_rfl) (fun _ _ _ h => h) (by rfl) (fun _ _ => by go_simp) hS ?_
            simp only [Act.put, List.setIfInBounds_toArray, List.set_cons_zero, List.set_cons_succ]
            refine wpAnyL_take 1 84 (.int .i64 (j : Int)) [2, 7] rfl rfl (by kernel_rfl) (by kernel_rfl) (by kernel_rfl) (by kernel_rfl) (by kernel_rfl) (fun _ _ _ h => h) (by rfl) (fun _ _ => by go_simp) hS ?_
            simp only [Act.put, List.setIfInBounds_toArray, List.set_cons_zero, List.set_cons_succ]
            refine wpAnyL_take 2 85 (.slice tl kl dl) [7] rfl rfl (by kernel_rfl) (by kernel_rfl) (by kernel_rfl) (by kernel_rfl) (by kernel_rfl) (fun _ _ _ h => h) (by rfl) (fun G _ => by have h := unhide HSL G; go_simp) hS ?_
            simp only [Act.put, List.setIfInBounds_toArray, List.set_cons_zero, List.set_cons_succ]
            refine wpAnyL_take 3 86 (.slice bo r cm) [5, 6, 7] rfl rfl (by kernel_rfl) (by kernel_rfl) (by kernel_rfl) (by kernel_rfl) (by kernel_rfl) (fun _ _ _ h => h) (by rfl) (fun _ _ => by go_simp) hS ?_
            simp only [Act.put, List.setIfInBounds_toArray, List.set_cons_zero, List.set_cons_succ]
            refine wpAnyL_take 4 87 (.int .i64 (j : Int)) [5, 6, 7] rfl rfl (by kernel_rfl) (by kernel_rfl) (by kernel_rfl) (by kernel_rfl) (by kernel_rfl) (fun _ _ _ h => h) (by rfl) (fun _ _ => by go_simp) hS ?_
            simp only [Act.put, List.setIfInBounds_toArray, List.set_cons_zero, List.set_cons_succ]
            refine wpAnyL_take 5 88 (.pointer (some ⟨g5, o5 + j * 2, none⟩)) [6, 7] rfl rfl (by kernel_rfl) (by kernel_rfl) (by kernel_rfl) (by kernel_rfl) (by kernel_rfl) (fun _ _ _ h => h) (by rfl) (fun _ _ => by go_simp) hS ?_
            simp only [Act.put, List.setIfInBounds_toArray, List.set_cons_zero, List.set_cons_succ]
            refine wpAnyL_take 6 89 (.agg #[.string y1, .string y2]) [7] rfl rfl (by kernel_rfl) (by kernel_rfl) (by kernel_rfl) (by kernel_rfl) (by kernel_rfl) (fun _ _ _ h => h) (by rfl) (fun G hG => by obtain ⟨e0, e1⟩ := unhide HCL G hG; go_simp) hS ?_
            simp only [Act.put, List.setIfInBounds_toArray, List.set_cons_zero, List.set_cons_succ]
            refine wpAnyL_take 8 91 (.slice ao q cl) [13] rfl rfl (by kernel_rfl) (by kernel_rfl) (by kernel_rfl) (by kernel_rfl) (by kernel_rfl) (fun _ _ _ h => h) (by rfl) (fun _ _ => by go_simp) hS ?_
            simp only [Act.put, List.setIfInBounds_toArray, List.set_cons_zero, List.set_cons_succ]
            refine wpAnyL_take 9 92 (.slice bo r cm) [11, 12, 13] rfl rfl (by kernel_rfl) (by kernel_rfl) (by kernel_rfl) (by kernel_rfl) (by kernel_rfl) (fun _ _ _ h => h) (by rfl) (fun _ _ => by go_simp) hS ?_
            simp only [Act.put, List.setIfInBounds_toArray, List.set_cons_zero, List.set_cons_succ]
            refine wpAnyL_take 10 93 (.int .i64 (j : Int)) [11, 12, 13] rfl rfl (by kernel_rfl) (by kernel_rfl) (by kernel_rfl) (by kernel_rfl) (by kernel_rfl) (fun _ _ _ h => h) (by rfl) (fun _ _ => by go_simp) hS ?_
            simp only [Act.put, List.setIfInBounds_toArray, List.set_cons_zero, List.set_cons_succ]
            refine wpAnyL_take 11 94 (.pointer (some ⟨g5, o5 + j * 2, none⟩)) [12, 13] rfl rfl (by kernel_rfl) (by kernel_rfl) (by kernel_rfl) (by kernel_rfl) (by kernel_rfl) (fun _ _ _ h => h) (by rfl) (fun _ _ => by go_simp) hS ?_
            simp only [Act.put, List.setIfInBounds_toArray, List.set_cons_zero, List.set_cons_succ]
            refine wpAnyL_take 12 95 (.agg #[.string y1, .string y2]) [13] rfl rfl (by kernel_rfl) (by kernel_rfl) (by kernel_rfl) (by kernel_rfl) (by kernel_rfl) (fun _ _ _ h => h) (by rfl) (fun G hG => by obtain ⟨e0, e1⟩ := unhide HCL G hG; go_simp) hS ?_
            simp only [Act.put, List.setIfInBounds_toArray, List.set_cons_zero, List.set_cons_succ]
            refine wpAnyL_one (i := 7) (by kernel_rfl) rfl (by rfl) fun K hK => ?_
            refine wp_call_fn 19 _ _ (by rfl) #[.slice tl kl dl, .agg #[.string y1, .string y2]] (by with_unfolding_all rfl) entTM (some 90) (by rfl) _ (asC (unhide HT1 X hS)) ?_
            rintro _ X1 ⟨rfl, hb⟩
            have HS1 : Hid (Below X.heap.size X X1) := (hS : Below X.heap.size X X).trans (hb.mono (Nat.le_refl _))
            clear hb
            refine hK _ _ (fun _ => (unhide HS1)) ?_
            clear hK K
            simp only [Act.put, List.setIfInBounds_toArray, List.set_cons_zero, List.set_cons_succ]
            refine wpAnyL_one (i := 13) (by kernel_rfl) rfl (by rfl) fun K hK => ?_
            refine wp_call_fn 19 _ _ (by rfl) #[.slice ao q cl, .agg #[.string y1, .string y2]] (by with_unfolding_all rfl) entTM (some 96) (by rfl) _ (asC (unhide HT2 X1 (unhide HS1))) ?_
            rintro _ X2 ⟨rfl, hb⟩
            have HS2 : Hid (Below X.heap.size X X2) := (unhide HS1).trans (hb.mono (unhide HS1).size)
            clear hb
            refine hK _ _ (fun _ => (unhide HS2)) ?_
            clear hK K
            simp only [Act.put, List.setIfInBounds_toArray, List.set_cons_zero, List.set_cons_succ]
            refine wpAnyL_one (i := 14) (by kernel_rfl) rfl (by rfl) fun K hK => ?_
            refine wp_val (.bool false) (by go_simp) (some 97) (by rfl) ?_
            refine hK _ _ (fun _ => (unhide HS2)) ?_
            clear hK K
            simp only [Act.put, List.setIfInBounds_toArray, List.set_cons_zero, List.set_cons_succ]
            refine wpAnyL_done (by kernel_rfl) ?_ _
            have HT3 := hide ((unhide HTX).below (unhide HS2))
            clear HCL HT1 HT2 HSL
            go_wp2
            go_roundw
            case rel => exact ⟨j, by omega, rfl, by rw [unhide HNX]; exact HT3⟩
            case measure => simp [intOf]
end Go.Proofs.Ytdmdenbpokmelaa.K
