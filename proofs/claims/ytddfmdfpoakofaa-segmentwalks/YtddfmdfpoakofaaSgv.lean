/- Segments: pieces are the list: the walk of SegmentWalks. Written by mksgv.py. -/
import Derived.Test.YtddfmdfpoakofaaSgu
namespace Go.Proofs.Ytddfmdfpoakofaa.S
open Go.RowKit Go.Lib
theorem bl_nil : ∀ x : List UInt8, Op.bytesLess x [] = false
  | [] => rfl
  | _ :: _ => rfl
theorem bl_succ : ∀ x y : List UInt8, Op.bytesLess x (y ++ [0]) = (Op.bytesLess x y || x == y)
  | [], [] => rfl
  | [], _ :: _ => rfl
  | a :: x, [] => by
    show (decide (a < 0) || (a == 0 && Op.bytesLess x [])) = _
    rw [bl_nil, Bool.and_false, Bool.or_false]
    have : ¬ a < 0 := by simp
    rw [decide_eq_false this]
    rfl
  | a :: x, b :: y => by
    have ih := bl_succ x y
    show (decide (a < b) || (a == b && Op.bytesLess x (y ++ [0]))) = ((decide (a < b) || (a == b && Op.bytesLess x y)) || (a :: x == b :: y))
    rw [ih, show (a :: x == b :: y) = (a == b && x == y) from rfl]
    cases decide (a < b) <;> cases (a == b) <;> simp
def nul : ByteArray := ⟨#[0]⟩
theorem lt_nul (x y : ByteArray) : lt x (y ++ nul) = (lt x y || decide (x = y)) := by
  unfold lt
  have e : (y ++ nul).toList = y.toList ++ [0] := by
    rw [ByteArray.toList_eq, ByteArray.toList_eq, ByteArray.data_append, Array.toList_append]
    rfl
  rw [e, bl_succ, ba_beq]
theorem plc_zero (l : List En) : plc l ⟨#[]⟩ = 0 := by
  unfold plc
  cases l with
  | nil => rfl
  | cons e l =>
    have h : lt e.1 ⟨#[]⟩ = false := by unfold lt; rw [empty_list]; exact bl_nil _
    rw [List.takeWhile_cons, h]
    rfl
theorem plc_next {l : List En} {wd : Int} (ho : Ok l wd) {j : Nat} (hj : j < l.length) : plc l (l[j].1 ++ nul) = j + 1 := by
  refine plc_eq ho hj (fun i hi hij => ?_) (fun i hi hij => ?_)
  · rw [lt_nul]
    rcases Nat.lt_or_ge i j with h | h
    · rw [ho.rise' h hj]; rfl
    · obtain rfl : i = j := by omega
      simp
  · have h1 := ho.rise' (show j < i by omega) hi
    rw [lt_nul, lt_asymm h1, decide_eq_false (fun e => lt_ne h1 e.symm)]
    rfl
theorem pie_get {l : List En} {a i : Nat} (hi : i < ((l.drop a).take 64).length) : ∃ h : a + i < l.length, ((l.drop a).take 64)[i] = l[a + i] := by
  have h1 : i < (l.drop a).length := by rw [List.length_take] at hi; omega
  rw [List.length_drop] at h1
  exact ⟨by omega, by rw [List.getElem_take, List.getElem_drop]⟩
set_option maxRecDepth 100000 in
set_option maxHeartbeats 8000000 in
theorem walks14_walk (l : List En) (ao : Option Addr) (n c : Nat) (u : World) (h : El u l ao n c) : Calls Try.prog 11 #[.slice ao n c] u fun e u' => e = .returned (.bool true) ∧ Below u.heap.size u u' := by
  have HH := hide h
  have hnf := h.few
  have hni : (n : Int) ≤ 4398046510976 := by omega
  have HRN := hide h.hn
  have HAW := hide (lAwake u)
  have HL1 := hide fun (G : World) (hG : Below u.heap.size u G) => qList l ao n c G (h.below hG)
  have HPC : Hid (∀ (k : ByteArray) (dl : List En) (r : Bool), pieV l k = (dl, r) → ∀ (G : World) (xo : Option Addr) (cc : Nat), El G l xo n cc → Calls Try.prog 39 #[.slice xo n cc, .string k] G fun e u' => ∃ yo m cd, e = .returned (.tuple #[.slice yo m cd, .bool r]) ∧ m = dl.length ∧ RE.Own u' G.heap.size dl yo cd ∧ Below G.heap.size G u') := fun k dl r hv G xo cc hG => sPiece l xo n cc k G hG dl r hv
  by_cases hl : liB l = true
  · rw [hl] at HL1
    have HPV : Hid (∀ k, pieV l k = ((l.drop (plc l k)).take 64, decide (64 < (l.drop (plc l k)).length))) := fun k => by unfold pieV; rw [if_pos hl]
    have HPN : Hid (∀ j (hj : j < l.length), plc l (l[j].1 ++ nul) = j + 1) := fun j hj => by
      rcases li_ok hl with h0 | ⟨wd, ho⟩
      · subst h0; simp at hj
      · exact plc_next ho hj
    have HKS : Hid (∀ j (hj : j < l.length), l[j].1.size ≤ 32) := fun j hj => (liShort hl _ (List.getElem_mem hj)).1
    clear hl h hnf
    go_enter Try.func11, Try.ntmps11
    go_wp2_with (first
      | (go_at_call 49; refine (unhide HAW).mono ?_; rintro e W1 ⟨rfl, hb⟩; have HB1 := hide hb; clear hb)
      | (go_at_call 50; refine (unhide HL1 W1 (unhide HB1)).mono ?_; rintro e W2 ⟨rfl, hb⟩; have HB2 : Hid (Below u.heap.size u W2) := Below.step (unhide HB1) hb; clear hb HB1)
      | fail)
    go_loopw [5, 6] (fun sf sa wr => ∃ (fr : ByteArray) (at_ : Nat), sf = .string fr ∧ sa = .int .i64 at_ ∧ at_ ≤ n ∧ Hid (plc l fr = at_) ∧ Hid (Below u.heap.size u wr)) (fun _ sa _ => n - (intOf sa).toNat)
    case atStart => exact ⟨⟨#[]⟩, 0, rfl, rfl, Nat.zero_le _, plc_zero l, unhide HB2⟩
    case round =>
      clear HB2 HL1
      obtain ⟨fr, at_, rfl, rfl, han, HPL, HB2⟩ := hrel
      have hai : (at_ : Int) ≤ 4398046510976 := by omega
      have HP1 := hide (unhide HPV fr)
      rw [unhide HPL] at HP1
      have HDL : Hid ((l.drop at_).length = n - at_) := by rw [List.length_drop, unhide HRN]; exact rfl
      rw [unhide HDL] at HP1
      obtain ⟨pl, hpl⟩ : ∃ pl, pl = (l.drop at_).take 64 := ⟨_, rfl⟩
      have HPG : Hid (∀ i (hi : i < pl.length), ∃ h : at_ + i < l.length, pl[i] = l[at_ + i]) := fun i hi => by subst hpl; exact pie_get hi
      have hpll : pl.length = min 64 (n - at_) := by rw [hpl, List.length_take, unhide HDL]
      rw [← hpl] at HP1
      have HPMN : Hid (pl.length ≤ 4398046510976) := by show pl.length ≤ _; omega
      by_cases hmore : 64 < n - at_
      · rw [decide_eq_true hmore] at HP1
        have HPX := hide (unhide HPC fr pl true (unhide HP1))
        have hp64 : pl.length = 64 := by omega
        have HN1 : Hid (at_ + 64 ≤ n) := by show at_ + 64 ≤ n; omega
        have HPL2 := hide hp64
        have ha64 : (at_ : Int) + 64 ≤ (n : Int) := by omega
        have ha65 : ¬ (at_ : Int) + 64 > (n : Int) := by omega
        clear hpll hpl hmore HPC HPV hp64
        go_wp2_with (first
          | (at_builtin; (with_reducible refine wpList_putE (by rfl) (.tmp 30) (.tmp 31) (by rfl) (some 32) (by rfl) wr.heap.size [] l 0 n rfl (unhide HRN) (some ⟨wr.heap.size, 0, none⟩) ao 0 c (by with_unfolding_all rfl) (by with_unfolding_all rfl) (Own.empty wr _ (Nat.le_refl _)) (atNew (unhide HH) (unhide HB2) _) (unhide HH).l0 (szNew wr _) ?_); intro x4 n4 c4 W4 HP4; simp only [Act.put, List.setIfInBounds_toArray, List.set_cons_zero, List.set_cons_succ]; have HB4 : Hid (Below u.heap.size u W4) := Below.step (unhide HB2) ((unhide HP4).below0); have hn4 : n = n4 := ((unhide HP4).len.trans (unhide HRN).symm).symm; subst hn4; have HN4 : Hid (El W4 l x4 n c4) := ⟨(unhide HP4).own.at (unhide HH).many, unhide HRN⟩)
          | (go_at_call 39; refine (unhide HPX W4 x4 c4 (unhide HN4)).mono ?_; rintro e W5 ⟨yo, m5, cd, rfl, hm6, ho, hb⟩; have hm5 : 64 = m5 := (hm6.trans (unhide HPL2)).symm; clear hm6; subst hm5; have HB5 : Hid (Below u.heap.size u W5) := Below.step (unhide HB4) hb; have HE5 : Hid (El W5 pl yo 64 cd) := ⟨ho.at (unhide HPMN), (unhide HPL2).symm⟩; clear hb ho)
          | fail)
        go_loopw [9] (fun si wr => ∃ k : Nat, k ≤ 64 ∧ si = .int .i64 k ∧ Hid (Below W5.heap.size W5 wr)) (fun si _ => 64 - (intOf si).toNat)
        case atStart => exact ⟨0, Nat.zero_le _, rfl, Below.refl _ _⟩
        case round =>
          obtain ⟨k, hk, rfl, HI⟩ := hrel
          have HUI : Hid (Below u.heap.size u wr) := Below.step (unhide HB5) (unhide HI)
          by_cases hlt : k < 64
          · have hki : (k : Int) < 64 := by omega
            have hkp : k < pl.length := by rw [unhide HPL2]; exact hlt
            obtain ⟨hkl, hke⟩ := unhide HPG k hkp
            obtain ⟨g, o, hyo, e1, e2⟩ := ((unhide HE5).below (unhide HI)).en hkp
            obtain ⟨g', o', hao, d1, d2⟩ := ((unhide HH).below (unhide HUI)).en hkl
            have hix := ixE g o 64 cd k hlt
            obtain ⟨j, hj⟩ : ∃ j, j = at_ + k := ⟨_, rfl⟩
            have hix' := ixE g' o' n c j (by rw [hj, unhide HRN]; exact hkl)
            have hjw : IntKind.i64.wrap ((at_ : Int) + (k : Int)) = (j : Int) := by rw [IntKind.wrap_i64]; omega
            have hne := neqE pl[k] l[at_ + k]
            rw [decide_eq_true hke, show (!true) = false from rfl] at hne
            rw [hyo, hao] at *
            clear HPX HP1 HPG hke
            generalize pl[k] = x at *
            generalize l[at_ + k] = y at *
            rw [← hj] at d1 d2
            generalize o + k * 2 = oo at *
            generalize o' + j * 2 = op at *
            obtain ⟨xk, xs⟩ := x
            obtain ⟨yk, ys⟩ := y
            have e1 : wr.cell? ⟨g, oo, none⟩ = some (.string xk) := e1
            have e2 : wr.cell? ⟨g, oo + 1, none⟩ = some (.string xs) := e2
            have d1 : wr.cell? ⟨g', op, none⟩ = some (.string yk) := d1
            have d2 : wr.cell? ⟨g', op + 1, none⟩ = some (.string ys) := d2
            clear hj
            go_wp2_with fail
            go_quiet (fail)
            go_wp2
            go_roundw
            case rel => exact ⟨k + 1, by omega, by go_num, belowDrewN (unhide HI) _⟩
            case measure => simp [intOf]; omega
          · obtain rfl : k = 64 := by omega
            have hkp : 63 < pl.length := by rw [unhide HPL2]; decide
            obtain ⟨hkl, hke⟩ := unhide HPG 63 hkp
            obtain ⟨g, o, hyo, e1, -⟩ := ((unhide HE5).below (unhide HI)).en hkp
            have hix := ixE g o 64 cd 63 (by decide)
            have hNX := unhide HPN (at_ + 63) hkl
            rw [← hke] at hNX
            have hks := unhide HKS (at_ + 63) hkl
            rw [← hke] at hks
            rw [hyo] at *
            generalize pl[63] = x at *
            obtain ⟨xk, xs⟩ := x
            have e1 : wr.cell? ⟨g, o + 63 * 2, none⟩ = some (.string xk) := e1
            have hks : xk.size ≤ 32 := hks
            have HNX : Hid (plc l (xk ++ nul) = at_ + 64) := hNX
            have hix : ∀ W : World, (Instr.indexAt 27 (.slice (some ⟨g, o, none⟩) 64 cd) (.int .i64 63)).run Try.prog W = .ok (.pointer (some ⟨g, o + 63 * 2, none⟩)) W := hix
            generalize o + 63 * 2 = oo at *
            obtain ⟨T, hT⟩ : ∃ T : ByteArray, T = xk ++ nul := ⟨_, rfl⟩
            have hcat : ∀ W : World, (Op.stringOp .add xk (⟨#[0]⟩ : ByteArray)).run Try.prog W = .ok (.string T) W := fun W => by
              rw [hT]
              have h1 : ((⟨#[0]⟩ : ByteArray).size : Int) = 1 := rfl
              unfold Op.stringOp nul
              simp [h1]
              omega
            rw [← hT] at HNX
            clear hT hNX hke hks HPX HP1 HPG
            go_wp2
            go_roundw
            case rel => exact ⟨T, at_ + 64, rfl, by go_num, unhide HN1, unhide HNX, unhide HUI⟩
            case measure => simp [intOf]; have := unhide HN1; omega
      · rw [decide_eq_false hmore] at HP1
        have HPX := hide (unhide HPC fr pl false (unhide HP1))
        have HPL2 : Hid (pl.length = n - at_) := by show pl.length = _; omega
        obtain ⟨m, hm⟩ : ∃ m, m = n - at_ := ⟨_, rfl⟩
        rw [← hm] at HPL2
        have ham : at_ + m = n := by omega
        have hami : (at_ : Int) + (m : Int) = (n : Int) := by omega
        have hmi : (m : Int) ≤ 64 := by omega
        have hm64 : ¬ (m : Int) > 64 := by omega
        have hann : ¬ (n : Int) > (n : Int) := by omega
        have hwr : IntKind.i64.wrap ((at_ : Int) + (m : Int)) = (n : Int) := by rw [IntKind.wrap_i64]; omega
        have HAM := hide ham
        clear hpll hpl hmore HPC HPV hm ham
        go_wp2_with (first
          | (at_builtin; (with_reducible refine wpList_putE (by rfl) (.tmp 30) (.tmp 31) (by rfl) (some 32) (by rfl) wr.heap.size [] l 0 n rfl (unhide HRN) (some ⟨wr.heap.size, 0, none⟩) ao 0 c (by with_unfolding_all rfl) (by with_unfolding_all rfl) (Own.empty wr _ (Nat.le_refl _)) (atNew (unhide HH) (unhide HB2) _) (unhide HH).l0 (szNew wr _) ?_); intro x4 n4 c4 W4 HP4; simp only [Act.put, List.setIfInBounds_toArray, List.set_cons_zero, List.set_cons_succ]; have HB4 : Hid (Below u.heap.size u W4) := Below.step (unhide HB2) ((unhide HP4).below0); have hn4 : n = n4 := ((unhide HP4).len.trans (unhide HRN).symm).symm; subst hn4; have HN4 : Hid (El W4 l x4 n c4) := ⟨(unhide HP4).own.at (unhide HH).many, unhide HRN⟩)
          | (go_at_call 39; refine (unhide HPX W4 x4 c4 (unhide HN4)).mono ?_; rintro e W5 ⟨yo, m5, cd, rfl, hm6, ho, hb⟩; have hm5 : m = m5 := (hm6.trans (unhide HPL2)).symm; clear hm6; subst hm5; have HB5 : Hid (Below u.heap.size u W5) := Below.step (unhide HB4) hb; have HE5 : Hid (El W5 pl yo m cd) := ⟨ho.at (unhide HPMN), (unhide HPL2).symm⟩; clear hb ho)
          | fail)
        go_loopw [9] (fun si wr => ∃ k : Nat, k ≤ m ∧ si = .int .i64 k ∧ Hid (Below W5.heap.size W5 wr)) (fun si _ => m - (intOf si).toNat)
        case atStart => exact ⟨0, Nat.zero_le _, rfl, Below.refl _ _⟩
        case round =>
          obtain ⟨k, hk, rfl, HI⟩ := hrel
          have HUI : Hid (Below u.heap.size u wr) := Below.step (unhide HB5) (unhide HI)
          by_cases hlt : k < m
          · have hki : (k : Int) < (m : Int) := by omega
            have hkp : k < pl.length := by rw [unhide HPL2]; exact hlt
            obtain ⟨hkl, hke⟩ := unhide HPG k hkp
            obtain ⟨g, o, hyo, e1, e2⟩ := ((unhide HE5).below (unhide HI)).en hkp
            obtain ⟨g', o', hao, d1, d2⟩ := ((unhide HH).below (unhide HUI)).en hkl
            have hix := ixE g o m cd k hlt
            obtain ⟨j, hj⟩ : ∃ j, j = at_ + k := ⟨_, rfl⟩
            have hix' := ixE g' o' n c j (by rw [hj, unhide HRN]; exact hkl)
            have hjw : IntKind.i64.wrap ((at_ : Int) + (k : Int)) = (j : Int) := by rw [IntKind.wrap_i64]; omega
            have hne := neqE pl[k] l[at_ + k]
            rw [decide_eq_true hke, show (!true) = false from rfl] at hne
            rw [hyo, hao] at *
            clear HPX HP1 HPG hke
            generalize pl[k] = x at *
            generalize l[at_ + k] = y at *
            rw [← hj] at d1 d2
            generalize o + k * 2 = oo at *
            generalize o' + j * 2 = op at *
            obtain ⟨xk, xs⟩ := x
            obtain ⟨yk, ys⟩ := y
            have e1 : wr.cell? ⟨g, oo, none⟩ = some (.string xk) := e1
            have e2 : wr.cell? ⟨g, oo + 1, none⟩ = some (.string xs) := e2
            have d1 : wr.cell? ⟨g', op, none⟩ = some (.string yk) := d1
            have d2 : wr.cell? ⟨g', op + 1, none⟩ = some (.string ys) := d2
            clear hj
            go_wp2_with fail
            go_quiet (fail)
            go_wp2
            go_roundw
            case rel => exact ⟨k + 1, by omega, by go_num, belowDrewN (unhide HI) _⟩
            case measure => simp [intOf]; omega
          · obtain rfl : k = m := by omega
            have hki : ¬ (k : Int) < (k : Int) := by omega
            go_wp2
            go_ret
            exact ⟨rfl, unhide HUI⟩
  · rw [Bool.not_eq_true] at hl
    rw [hl] at HL1
    have HPX := hide (unhide HPC ⟨#[]⟩ [] false (by unfold pieV; rw [if_neg (by rw [hl]; decide)]))
    clear hl h hnf HPC
    go_enter Try.func11, Try.ntmps11
    go_wp2_with (first
      | (go_at_call 49; refine (unhide HAW).mono ?_; rintro e W1 ⟨rfl, hb⟩; have HB1 := hide hb; clear hb)
      | (go_at_call 50; refine (unhide HL1 W1 (unhide HB1)).mono ?_; rintro e W2 ⟨rfl, hb⟩; have HB2 : Hid (Below u.heap.size u W2) := Below.step (unhide HB1) hb; clear hb HB1)
      | (at_builtin; (with_reducible refine wpList_putE (by rfl) (.tmp 16) (.tmp 17) (by rfl) (some 18) (by rfl) W2.heap.size [] l 0 n rfl (unhide HRN) (some ⟨W2.heap.size, 0, none⟩) ao 0 c (by with_unfolding_all rfl) (by with_unfolding_all rfl) (Own.empty W2 _ (Nat.le_refl _)) (atNew (unhide HH) (unhide HB2) _) (unhide HH).l0 (szNew W2 _) ?_); intro x4 n4 c4 W4 HP4; simp only [Act.put, List.setIfInBounds_toArray, List.set_cons_zero, List.set_cons_succ]; have HB4 : Hid (Below u.heap.size u W4) := Below.step (unhide HB2) ((unhide HP4).below0); have hn4 : n = n4 := ((unhide HP4).len.trans (unhide HRN).symm).symm; subst hn4; have HN4 : Hid (El W4 l x4 n c4) := ⟨(unhide HP4).own.at (unhide HH).many, unhide HRN⟩)
      | (go_at_call 39; refine (unhide HPX W4 x4 c4 (unhide HN4)).mono ?_; rintro e W5 ⟨yo, m, cd, rfl, rfl, ho, hb⟩; have HB5 : Hid (Below u.heap.size u W5) := Below.step (unhide HB4) hb; clear hb ho)
      | fail)
    go_ret
    exact ⟨rfl, unhide HB5⟩
end Go.Proofs.Ytddfmdfpoakofaa.S
