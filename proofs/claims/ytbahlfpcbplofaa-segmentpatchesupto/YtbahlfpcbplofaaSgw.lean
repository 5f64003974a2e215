/- Segments: the document's Piece; the law's over, spoil. Written by mksgw.py. -/
import Derived.Test.YtbahlfpcbplofaaSgu
namespace Go.Proofs.Ytbahlfpcbplofaa.S
open Go.RowKit Go.Lib
theorem drop_take_lo {l : List En} {t i : Nat} (h : i ≤ t) : (l.take i).drop t = [] := List.drop_eq_nil_of_le (by rw [List.length_take]; omega)
theorem drop_take_next {l : List En} {t i : Nat} (h : t ≤ i) (hi : i < l.length) : (l.take (i + 1)).drop t = (l.take i).drop t ++ [l[i]] := by
  rw [List.take_succ_eq_append_getElem hi, List.drop_append_of_le_length (by rw [List.length_take]; omega)]
theorem drop_take_len {l : List En} {t i : Nat} (hi : i ≤ l.length) : ((l.take i).drop t).length = i - t := by rw [List.length_drop, List.length_take, Nat.min_eq_left hi]
theorem drop_take_eq (l : List En) (t k : Nat) : (l.take (t + k)).drop t = (l.drop t).take k := by rw [List.drop_take, Nat.add_sub_cancel_left]
set_option maxRecDepth 100000 in
set_option maxHeartbeats 4000000 in
theorem qPiece (l : List En) (ao : Option Addr) (n c : Nat) (k : ByteArray) (u : World) (h : El u l ao n c) (dl : List En) (r : Bool) (hv : pieV l k = (dl, r)) : Calls Try.prog 38 #[.slice ao n c, .string k] u fun e u' => ∃ xo m cc, e = .returned (.tuple #[.slice xo m cc, .bool r]) ∧ m = dl.length ∧ RE.Own u' u.heap.size dl xo cc ∧ Below u.heap.size u u' := by
  have HH := hide h
  have hnf := h.few
  have hni : (n : Int) ≤ 4398046511000 := by omega
  have HRN := hide h.hn
  have HL1 := hide (qList l ao n c u h)
  unfold pieV at hv
  by_cases h1 : liB l = true
  · rw [h1] at HL1
    rw [if_pos h1] at hv
    obtain ⟨t, ht⟩ : ∃ t, t = plc l k := ⟨_, rfl⟩
    rw [← ht] at hv
    have htn : t ≤ n := by rw [ht, h.hn]; exact plc_le _ _
    have HP1 : Hid (∀ i (hi : i < l.length), i < t → lt l[i].1 k = true) := fun i hi hit => plc_below (by rw [← ht]; exact hit) hi
    have HP2 : Hid (∀ i (hi : i < l.length), t ≤ i → lt l[i].1 k = false) := fun i hi hit => by
      rcases li_ok h1 with h0 | ⟨wd, hok⟩
      · subst h0; simp at hi
      · exact plc_above hok (by rw [← ht]; exact hit) hi
    have HV := hide hv
    have HTN := hide htn
    have HLL : Hid (∀ (a : List En) (e : En), a.length ≤ 64 → (a.length + [e].length) * 32 ≤ 140737488355328) := fun a e ha => by
      rw [List.length_singleton]; omega
    clear h h1 ht hv hnf htn
    go_enter Try.func38, Try.ntmps38
    go_wp2_with (first
      | (go_at_call 50; refine (unhide HL1).mono ?_; rintro e W1 ⟨rfl, hb⟩; have HB1 := hide hb; clear hb)
      | fail)
    go_loopw [6, 7] (fun so si wr => ∃ (i m cc : Nat) (xo : Option Addr), i ≤ n ∧ si = .int .i64 i ∧ so = .slice xo m cc ∧ m ≤ 64 ∧ m = i - t ∧ Hid (m = ((l.take i).drop t).length) ∧ Hid (RE.Own wr u.heap.size ((l.take i).drop t) xo cc) ∧ Hid (Below u.heap.size u wr)) (fun _ si _ => n - (intOf si).toNat)
    case atStart => exact ⟨0, 0, 0, none, Nat.zero_le _, rfl, rfl, by decide, by omega, by rw [List.take_zero, List.drop_nil]; rfl, by rw [List.take_zero, List.drop_nil]; exact Rec.Own.none _ _, unhide HB1⟩
    case round =>
      clear HB1
      obtain ⟨i, m, cc, xo, hin, rfl, rfl, hm64, hmi, HML, HO, HI⟩ := hrel
      have hmii : (m : Int) ≤ 64 := by omega
      by_cases hlt : i < n
      · have hii : (i : Int) < (n : Int) := by omega
        have hil : i < l.length := by rw [← unhide HRN]; exact hlt
        obtain ⟨g, o, hao, c1, c2⟩ := ((unhide HH).below (unhide HI)).en hil
        have hix := ixE g o n c i hlt
        by_cases hit : i < t
        · have hl := unhide HP1 i hil hit
          have HN : Hid ((l.take (i + 1)).drop t = (l.take i).drop t) := by rw [drop_take_lo (by omega), drop_take_lo (by omega)]; exact rfl
          unfold lt at hl
          rw [hao] at *
          generalize l[i] = x at *
          obtain ⟨xk, xs⟩ := x
          have c1 : wr.cell? ⟨g, o + i * 2, none⟩ = some (.string xk) := c1
          have hl : Op.bytesLess xk.toList k.toList = true := hl
          clear c2
          generalize o + i * 2 = oo at *
          have HMI : Hid (m = i + 1 - t) := by show m = _; omega
          clear hmi
          go_wp2
          go_roundw
          case rel => exact ⟨i + 1, m, cc, xo, by omega, by go_num, rfl, hm64, unhide HMI, by rw [unhide HN]; exact unhide HML, by rw [unhide HN]; exact unhide HO, unhide HI⟩
          case measure => simp [intOf]; omega
        · have hl := unhide HP2 i hil (by omega)
          have HN := hide (drop_take_next (l := l) (t := t) (i := i) (by omega) hil)
          unfold lt at hl
          rw [hao] at *
          by_cases hm : m = 64
          · have HE : Hid (dl = (l.take i).drop t ∧ r = true) := by
              have h1 := unhide HV
              have h2 : i = t + 64 := by omega
              subst h2
              rw [drop_take_eq]
              refine ⟨(Prod.mk.inj h1).1.symm, (Prod.mk.inj h1).2.symm.trans (decide_eq_true ?_)⟩
              rw [List.length_drop]; omega
            obtain ⟨hd, hr⟩ := unhide HE
            subst hr
            generalize l[i] = x at *
            obtain ⟨xk, xs⟩ := x
            have c1 : wr.cell? ⟨g, o + i * 2, none⟩ = some (.string xk) := c1
            have hl : Op.bytesLess xk.toList k.toList = false := hl
            clear c2
            generalize o + i * 2 = oo at *
            have HD := hide hd
            clear hmi hmii hm64 hd HE
            have HMM := hide hm
            subst hm
            go_wp2
            go_ret2
            exact ⟨xo, 64, cc, rfl, by rw [unhide HD]; exact unhide HML, by rw [unhide HD]; exact unhide HO, unhide HI⟩
          · have hmb : ((m : Int) == 64) = false := beq_false_of_ne (by omega)
            have hmn : ¬ (m : Int) = 64 := by omega
            have HL1 := hide (unhide HLL ((l.take i).drop t) l[i] (by rw [← unhide HML]; exact hm64))
            have HMI : Hid (m + 1 ≤ 64 ∧ m + 1 = i + 1 - t) := ⟨by omega, by omega⟩
            generalize l[i] = x at *
            obtain ⟨xk, xs⟩ := x
            have c1 : wr.cell? ⟨g, o + i * 2, none⟩ = some (.string xk) := c1
            have c2 : wr.cell? ⟨g, o + i * 2 + 1, none⟩ = some (.string xs) := c2
            have hl : Op.bytesLess xk.toList k.toList = false := hl
            generalize o + i * 2 = oo at *
            generalize (l.take i).drop t = acc at *
            have HO3 : Hid (RE.Own (wr.alloc (.cells #[.string xk, .string xs] 43)) u.heap.size acc xo cc) := (unhide HO).below ((Below.refl _ _).alloc (Nat.le_refl _) _)
            have HA3 : Hid (RE.At (wr.alloc (.cells #[.string xk, .string xs] 43)) [(xk, xs)] (some ⟨wr.heap.size, 0, none⟩) 1) := RE.one wr (xk, xs) _
            have HS3 : Hid (u.heap.size ≤ (wr.alloc (.cells #[.string xk, .string xs] 43)).heap.size) := Nat.le_trans (unhide HI).size (szNew wr _)
            clear hmi hmii hm
            go_wp2_with (first
              | (at_builtin; (with_reducible refine wpList_putE (by rfl) (.tmp 28) (.tmp 33) (by rfl) (some 34) (by rfl) u.heap.size acc [(xk, xs)] m 1 (unhide HML) rfl xo (some ⟨wr.heap.size, 0, none⟩) cc 1 (by with_unfolding_all rfl) (by with_unfolding_all rfl) (unhide HO3) (unhide HA3) (unhide HL1) (unhide HS3) ?_); intro x4 n4 c4 W4 HP4; simp only [Act.put, List.setIfInBounds_toArray, List.set_cons_zero, List.set_cons_succ]; have HB4 : Hid (Below u.heap.size u W4) := ((unhide HI).alloc (unhide HI).size _).trans (unhide HP4).below; have hn4 : n4 = m + 1 := (by have h1 := (unhide HP4).len; rw [List.length_append, ← unhide HML] at h1; exact h1))
              | fail)
            go_wp2
            go_roundw
            case rel => exact ⟨i + 1, n4, c4, x4, by omega, by go_num, rfl, by rw [hn4]; exact (unhide HMI).1, by rw [hn4]; exact (unhide HMI).2, by rw [unhide HN]; exact (unhide HP4).len, by rw [unhide HN]; exact (unhide HP4).own, unhide HB4⟩
            case measure => simp [intOf]; omega
      · obtain rfl : i = n := by omega
        have hki : ¬ (i : Int) < (i : Int) := by omega
        have HE : Hid (dl = (l.take i).drop t ∧ r = false) := by
          have h1 := unhide HV
          have h2 : l.take i = l := List.take_of_length_le (by rw [unhide HRN]; exact Nat.le_refl _)
          rw [h2]
          have h3 : (l.drop t).length = i - t := by rw [List.length_drop, ← unhide HRN]
          refine ⟨(Prod.mk.inj h1).1.symm.trans (List.take_of_length_le (by omega)), (Prod.mk.inj h1).2.symm.trans (decide_eq_false (by omega))⟩
        obtain ⟨hd, hr⟩ := unhide HE
        subst hr
        have HD := hide hd
        clear hmi hd HE
        go_wp2
        go_ret2
        exact ⟨xo, m, cc, rfl, by rw [unhide HD]; exact unhide HML, by rw [unhide HD]; exact unhide HO, unhide HI⟩
  · rw [Bool.not_eq_true] at h1
    rw [h1] at HL1
    rw [if_neg (by rw [h1]; decide)] at hv
    cases hv
    clear h1 h
    go_enter Try.func38, Try.ntmps38
    go_wp2_with (first
      | (go_at_call 50; refine (unhide HL1).mono ?_; rintro e W1 ⟨rfl, hb⟩; have HB1 := hide hb; clear hb)
      | fail)
    go_ret2
    exact ⟨none, 0, 0, rfl, rfl, Rec.Own.none _ _, unhide HB1⟩
end Go.Proofs.Ytbahlfpcbplofaa.S
