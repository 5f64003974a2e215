/- The document's tokens: Cancel. -/
import Derived.Test.YtajbkgcgmkkpiaaCnu
namespace Go.Proofs.Ytajbkgcgmkkpiaa.C
open Go.RowKit Go.Lib
section
variable {B db n cb : Nat} {W : World} {up : Nat → Nat} {y : Nat → Int} {bo : Option Addr}
/-- as far as Cancel has come -/
def yC (up : Nat → Nat) (y : Nat → Int) (i m : Nat) (why : Int) : Nat → Int := fun j => if j < m ∧ y j = 0 ∧ anc up i j = true then why else y j
theorem yC_zero (up : Nat → Nat) (y : Nat → Int) (i : Nat) (why : Int) : yC up y i 0 why = y := funext fun j => if_neg (fun e => absurd e.1 (by omega))
theorem yC_skip {up : Nat → Nat} {y : Nat → Int} {i m : Nat} {why : Int} (h : ¬ (y m = 0 ∧ anc up i m = true)) : yC up y i (m + 1) why = yC up y i m why := funext fun j => by
  unfold yC
  by_cases e : j = m
  · subst e
    rw [if_neg (fun q => h ⟨q.2.1, q.2.2⟩), if_neg (fun q => h ⟨q.2.1, q.2.2⟩)]
  · by_cases q : j < m ∧ y j = 0 ∧ anc up i j = true
    · rw [if_pos q, if_pos ⟨by omega, q.2⟩]
    · rw [if_neg q, if_neg (fun r => q ⟨by omega, r.2⟩)]
theorem yC_at {up : Nat → Nat} {y : Nat → Int} {i m : Nat} {why : Int} : yC up y i m why m = y m := if_neg (fun e => absurd e.1 (by omega))
theorem yC_turn {up : Nat → Nat} {y : Nat → Int} {i m : Nat} {why : Int} (h : y m = 0 ∧ anc up i m = true) (j : Nat) : yC up y i (m + 1) why j = if j = m then why else yC up y i m why j := by
  unfold yC
  by_cases e : j = m
  · subst e
    rw [if_pos ⟨by omega, h⟩, if_pos rfl]
  · rw [if_neg e]
    by_cases q : j < m ∧ y j = 0 ∧ anc up i j = true
    · rw [if_pos q, if_pos ⟨by omega, q.2⟩]
    · rw [if_neg q, if_neg (fun r => q ⟨by omega, r.2⟩)]
/-- one reason laid -/
theorem RD.set {g : Nat} (h : RD B W db up y n (some ⟨g, 0, none⟩) cb) {m : Nat} (hm : m < n) (why : Int) (y' : Nat → Int) (hy : ∀ j, j < n → y' j = if j = m then why else y j) (hd : db ≠ g) : RD B (W.setCell ⟨g, m * 2 + 1, none⟩ (.int .i64 why)) db up y' n (some ⟨g, 0, none⟩) cb := by
  refine ⟨(World.cell?_setCell_other _ _ _ _ (by simp)).trans h.sl, ?_⟩
  have hlen : (refF up y' n).length = (refF up y n).length := by rw [refF_len, refF_len]
  have hrow := h.row
  have key : RR.Own (W.setCell ⟨g, m * 2 + 1, none⟩ (.int .i64 why)) B (refF up y' n) (some ⟨g, 0, none⟩) cb := by
    refine own_upd hrow hlen (m * 2 + 1) _ (by rw [refF_len]; show m * 2 + 1 < n * 2; omega) fun j hj => ?_
    rw [refF_len] at hj
    have hj2 : j < n * 2 := hj
    obtain ⟨q, f, hq, hf, rfl⟩ : ∃ q f, q < n ∧ f < 2 ∧ j = q * 2 + f := ⟨j / 2, j % 2, by omega, by omega, by omega⟩
    have e1 := RR.flat_get (refF up y' n) q (by rw [refF_len]; exact hq) f hf
    have e2 := RR.flat_get (refF up y n) q (by rw [refF_len]; exact hq) f hf
    rw [show RR.n = 2 from rfl, refF_get] at e1 e2
    rw [e1, e2]
    rcases (by omega : f = 0 ∨ f = 1) with rfl | rfl
    · rw [if_neg (by omega)]; rfl
    · by_cases e : q = m
      · subst e
        rw [if_pos rfl]
        show some (Value.int .i64 (y' q)) = _
        rw [hy q hq, if_pos rfl]
      · rw [if_neg (by omega)]
        show some (Value.int .i64 (y' q)) = some (Value.int .i64 (y q))
        rw [hy q hq, if_neg e]
  exact key
theorem RD.blk {g : Nat} (h : RD B W db up y n (some ⟨g, 0, none⟩) cb) : ∃ cs, W.heap[g]? = some (.cells cs 112 (0, 0)) ∧ B ≤ g := by
  rcases h.row.2 with ⟨hv, _⟩ | ⟨g', cap, cur, hv, hB, hh, _⟩
  · cases hv
  · simp only [Value.slice.injEq, Option.some.injEq, Addr.mk.injEq] at hv
    obtain ⟨⟨rfl, _⟩, _⟩ := hv
    exact ⟨cur, hh, hB⟩
theorem kRCanNil (db : Nat) (why : Int) (w : World) : Calls Try.prog 46 #[.pointer (some ⟨db, 1, none⟩), .int .i64 (-1), .int .i64 why] w fun e w' => e = .returned (.bool false) ∧ w' = w := by
  go_enter Try.func46, Try.ntmps46
  go_wp2
  go_ret
  exact ⟨rfl, rfl⟩
theorem kRCanDead (h : RD B W db up y n bo cb) {i : Nat} (hi : i < n) (hl : ¬ y i = 0) (why : Int) : Calls Try.prog 46 #[.pointer (some ⟨db, 1, none⟩), .int .i64 (i : Int), .int .i64 why] W fun e w' => e = .returned (.bool false) ∧ w' = W := by
  obtain ⟨g, rfl, h0, h1⟩ := h.get hi
  have hs := h.sl
  have hix := fun w => ixR g n cb i hi w
  have hj0 : ¬ (i : Int) < 0 := by omega
  have hjn : (i : Int) < (n : Int) := by omega
  have hne : (y i != 0) = true := by simp [hl]
  clear h hi hl
  go_enter Try.func46, Try.ntmps46
  go_wp2
  go_ret
  exact ⟨rfl, rfl⟩
set_option maxRecDepth 100000 in
set_option maxHeartbeats 1000000 in
theorem kRCan0 (h : RD B W db up y n bo cb) (hu : ∀ j, j < n → up j ≤ j) (hn : n < 6000000000000) {i : Nat} (hi : i < n) (hl : y i = 0)  (dk : ∃ c t f, W.heap[db]? = some (.cells c t f) ∧ t ≠ 112) :
    Calls Try.prog 46 #[.pointer (some ⟨db, 1, none⟩), .int .i64 (i : Int), .int .i64 0] W fun e w' => e = .returned (.bool true) ∧ RD B w' db up (yC up y i n 180) n bo cb ∧ Rt B W w' := by
  obtain ⟨g, rfl, h0, h1⟩ := h.get hi
  rw [hl] at h1
  have hs := h.sl
  have hix := fun w => ixR g n cb i hi w
  have hj0 : ¬ (i : Int) < 0 := by omega
  have hjn : (i : Int) < (n : Int) := by omega
  have hwv : ¬ (180 : Int) = 0 := by decide
  obtain ⟨gc, hgb, hgB⟩ := h.blk
  have hdg : db ≠ g := fun e => by
    obtain ⟨c, t, f, hd, ht⟩ := dk
    rw [e, hgb] at hd
    simp at hd
    exact ht hd.2.1.symm
  have HH := hide h
  have HU := hide hu
  have HN := hide hn
  have HI := hide hi
  have HDG := hide hdg
  clear h hu hn hi hl dk hgb hdg
  go_enter Try.func46, Try.ntmps46
  go_wp2
  clear h0 h1 hs hix hj0 hjn
  go_loopw [7] (fun s7 wr => ∃ m : Nat, m ≤ n ∧ s7 = .int .i64 (m : Int) ∧ Hid (RD B wr db up (yC up y i m 180) n (some ⟨g, 0, none⟩) cb ∧ Rt B W wr)) (fun s7 _ => n - (intOf s7).toNat)
  case atStart => exact ⟨0, Nat.zero_le _, rfl, by rw [yC_zero]; exact unhide HH, Rt.refl _ _⟩
  case round =>
    obtain ⟨m, hm, rfl, HM⟩ := hrel
    by_cases hlt : m < n
    · obtain ⟨hd, hr⟩ := unhide HM
      obtain ⟨g', hg', h0, h1⟩ := hd.get hlt
      obtain rfl : g = g' := by simpa using hg'
      rw [yC_at] at h1
      have hs := hd.sl
      have hix := fun w => ixR g n cb m hlt w
      have hmn : (m : Int) < (n : Int) := by omega
      have HUN := hide (kRUnder hd (unhide HU) (unhide HN) i m hlt)
      obtain ⟨gc2, hgb2, _⟩ := hd.blk
      have hfz := frz0 hgb2
      have HGB := hide hgb2
      have HD := hide hd
      have HR := hide hr
      have HLT := hide hlt
      have hwm : wrap64 ((m : Int) + 1) = ((m + 1 : Nat) : Int) := by have := unhide HN; simp only [wrap64]; omega
      clear hd hr hg' hlt HM hm hgb2
      by_cases hz : y m = 0
      · rw [hz] at h1
        have HZ := hide hz
        clear hz
        by_cases ha : anc up i m = true
        · rw [ha] at HUN
          have HA := hide ha
          clear ha
          go_wp2_with (first | (go_at_call 61; refine (unhide HUN).mono ?_; rintro e w' ⟨rfl, hw⟩; obtain rfl := hw.symm; clear HUN) | fail)
          go_roundw
          case rel => exact ⟨m + 1, unhide HLT, by rw [hwm], hide ⟨(unhide HD).set (unhide HLT) _ _ (fun j _ => yC_turn ⟨unhide HZ, unhide HA⟩ j) (unhide HDG), (unhide HR).trans (Rt.cell (unhide HGB) hgB _ _)⟩⟩
          case measure => have := unhide HLT; rw [hwm]; simp only [intOf, Int.toNat_natCast]; omega
        · rw [Bool.not_eq_true] at ha
          rw [ha] at HUN
          have HA := hide ha
          clear ha
          go_wp2_with (first | (go_at_call 61; refine (unhide HUN).mono ?_; rintro e w' ⟨rfl, hw⟩; obtain rfl := hw.symm; clear HUN) | fail)
          go_roundw
          case rel => exact ⟨m + 1, unhide HLT, by rw [hwm], hide ⟨by rw [yC_skip (fun e => by rw [unhide HA] at e; exact absurd e.2 (by simp))]; exact unhide HD, unhide HR⟩⟩
          case measure => have := unhide HLT; rw [hwm]; simp only [intOf, Int.toNat_natCast]; omega
      · have hzb : (y m == 0) = false := by simp [hz]
        have HZ := hide hz
        clear hz HUN
        go_wp2
        go_roundw
        case rel => exact ⟨m + 1, unhide HLT, by rw [hwm], hide ⟨by rw [yC_skip (fun e => unhide HZ e.1)]; exact unhide HD, unhide HR⟩⟩
        case measure => have := unhide HLT; rw [hwm]; simp only [intOf, Int.toNat_natCast]; omega
    · obtain rfl : m = n := by omega
      have hs := (unhide HM).1.sl
      have HM2 := hide (unhide HM)
      clear HM
      go_wp2
      go_ret
      exact ⟨rfl, unhide HM2⟩
set_option maxRecDepth 100000 in
set_option maxHeartbeats 1000000 in
theorem kRCan1 (h : RD B W db up y n bo cb) (hu : ∀ j, j < n → up j ≤ j) (hn : n < 6000000000000) {i : Nat} (hi : i < n) (hl : y i = 0) (why : Int) (hwy : ¬ why = 0) (dk : ∃ c t f, W.heap[db]? = some (.cells c t f) ∧ t ≠ 112) :
    Calls Try.prog 46 #[.pointer (some ⟨db, 1, none⟩), .int .i64 (i : Int), .int .i64 why] W fun e w' => e = .returned (.bool true) ∧ RD B w' db up (yC up y i n why) n bo cb ∧ Rt B W w' := by
  obtain ⟨g, rfl, h0, h1⟩ := h.get hi
  rw [hl] at h1
  have hs := h.sl
  have hix := fun w => ixR g n cb i hi w
  have hj0 : ¬ (i : Int) < 0 := by omega
  have hjn : (i : Int) < (n : Int) := by omega
  have hwv : ¬ (why : Int) = 0 := hwy
  obtain ⟨gc, hgb, hgB⟩ := h.blk
  have hdg : db ≠ g := fun e => by
    obtain ⟨c, t, f, hd, ht⟩ := dk
    rw [e, hgb] at hd
    simp at hd
    exact ht hd.2.1.symm
  have HH := hide h
  have HU := hide hu
  have HN := hide hn
  have HI := hide hi
  have HDG := hide hdg
  have hwe : (why == 0) = false := by simp [hwy]
  clear h hu hn hi hl dk hgb hdg
  go_enter Try.func46, Try.ntmps46
  go_wp2
  clear h0 h1 hs hix hj0 hjn
  go_loopw [7] (fun s7 wr => ∃ m : Nat, m ≤ n ∧ s7 = .int .i64 (m : Int) ∧ Hid (RD B wr db up (yC up y i m why) n (some ⟨g, 0, none⟩) cb ∧ Rt B W wr)) (fun s7 _ => n - (intOf s7).toNat)
  case atStart => exact ⟨0, Nat.zero_le _, rfl, by rw [yC_zero]; exact unhide HH, Rt.refl _ _⟩
  case round =>
    obtain ⟨m, hm, rfl, HM⟩ := hrel
    by_cases hlt : m < n
    · obtain ⟨hd, hr⟩ := unhide HM
      obtain ⟨g', hg', h0, h1⟩ := hd.get hlt
      obtain rfl : g = g' := by simpa using hg'
      rw [yC_at] at h1
      have hs := hd.sl
      have hix := fun w => ixR g n cb m hlt w
      have hmn : (m : Int) < (n : Int) := by omega
      have HUN := hide (kRUnder hd (unhide HU) (unhide HN) i m hlt)
      obtain ⟨gc2, hgb2, _⟩ := hd.blk
      have hfz := frz0 hgb2
      have HGB := hide hgb2
      have HD := hide hd
      have HR := hide hr
      have HLT := hide hlt
      have hwm : wrap64 ((m : Int) + 1) = ((m + 1 : Nat) : Int) := by have := unhide HN; simp only [wrap64]; omega
      clear hd hr hg' hlt HM hm hgb2
      by_cases hz : y m = 0
      · rw [hz] at h1
        have HZ := hide hz
        clear hz
        by_cases ha : anc up i m = true
        · rw [ha] at HUN
          have HA := hide ha
          clear ha
          go_wp2_with (first | (go_at_call 61; refine (unhide HUN).mono ?_; rintro e w' ⟨rfl, hw⟩; obtain rfl := hw.symm; clear HUN) | fail)
          go_roundw
          case rel => exact ⟨m + 1, unhide HLT, by rw [hwm], hide ⟨(unhide HD).set (unhide HLT) _ _ (fun j _ => yC_turn ⟨unhide HZ, unhide HA⟩ j) (unhide HDG), (unhide HR).trans (Rt.cell (unhide HGB) hgB _ _)⟩⟩
          case measure => have := unhide HLT; rw [hwm]; simp only [intOf, Int.toNat_natCast]; omega
        · rw [Bool.not_eq_true] at ha
          rw [ha] at HUN
          have HA := hide ha
          clear ha
          go_wp2_with (first | (go_at_call 61; refine (unhide HUN).mono ?_; rintro e w' ⟨rfl, hw⟩; obtain rfl := hw.symm; clear HUN) | fail)
          go_roundw
          case rel => exact ⟨m + 1, unhide HLT, by rw [hwm], hide ⟨by rw [yC_skip (fun e => by rw [unhide HA] at e; exact absurd e.2 (by simp))]; exact unhide HD, unhide HR⟩⟩
          case measure => have := unhide HLT; rw [hwm]; simp only [intOf, Int.toNat_natCast]; omega
      · have hzb : (y m == 0) = false := by simp [hz]
        have HZ := hide hz
        clear hz HUN
        go_wp2
        go_roundw
        case rel => exact ⟨m + 1, unhide HLT, by rw [hwm], hide ⟨by rw [yC_skip (fun e => unhide HZ e.1)]; exact unhide HD, unhide HR⟩⟩
        case measure => have := unhide HLT; rw [hwm]; simp only [intOf, Int.toNat_natCast]; omega
    · obtain rfl : m = n := by omega
      have hs := (unhide HM).1.sl
      have HM2 := hide (unhide HM)
      clear HM
      go_wp2
      go_ret
      exact ⟨rfl, unhide HM2⟩
theorem kRCan (h : RD B W db up y n bo cb) (hu : ∀ j, j < n → up j ≤ j) (hn : n < 6000000000000) {i : Nat} (hi : i < n) (hl : y i = 0) (why : Int) (dk : ∃ c t f, W.heap[db]? = some (.cells c t f) ∧ t ≠ 112) :
    Calls Try.prog 46 #[.pointer (some ⟨db, 1, none⟩), .int .i64 (i : Int), .int .i64 why] W fun e w' => e = .returned (.bool true) ∧ RD B w' db up (yC up y i n (wy why)) n bo cb ∧ Rt B W w' := by
  by_cases e : why = 0
  · subst e
    exact kRCan0 h hu hn hi hl dk
  · have e2 : wy why = why := if_neg e
    rw [e2]
    exact kRCan1 h hu hn hi hl why e dk
end
end Go.Proofs.Ytajbkgcgmkkpiaa.C
