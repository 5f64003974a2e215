/- Segments: unlike lists have unlike forms; copies; the walk of SegmentSums. Written by mksgt.py. -/
import Derived.Test.YtbahlfpcbplofaaSgs
import Derived.Test.YtbahlfpcbplofaaSgk
import Derived.Test.YtbahlfpcbplofaaXu
namespace Go.Proofs.Ytbahlfpcbplofaa.S
open Go.RowKit Go.Lib
theorem uint_pre {v v' : Nat} {t t' : List UInt8} (hv : v < 18446744073709551616) (hv' : v' < 18446744073709551616) (h : W.uintB 9 v ++ t = W.uintB 9 v' ++ t') : v = v' ∧ t = t' := by
  have h1 := W.uint_fwd (s := ⟨(W.uintB 9 v ++ t).toArray⟩) (p := 0) (v := v) (most := 18446744073709551615) (t := t) (by simp) hv (by omega)
  have h2 := W.uint_fwd (s := ⟨(W.uintB 9 v ++ t).toArray⟩) (p := 0) (v := v') (most := 18446744073709551615) (t := t') (by simp [h]) hv' (by omega)
  rw [h1] at h2
  have e : v = v' := (Prod.mk.inj h2).1
  subst e
  exact ⟨rfl, List.append_cancel_left h⟩
theorem text_pre {a b : ByteArray} {t t' : List UInt8} (ha : a.size < 18446744073709551616) (hb : b.size < 18446744073709551616) (h : textB a ++ t = textB b ++ t') : a = b ∧ t = t' := by
  unfold textB at h
  rw [List.append_assoc, List.append_assoc] at h
  obtain ⟨h1, h2⟩ := uint_pre ha hb h
  have hl : a.data.toList.length = b.data.toList.length := by
    have e1 : a.data.toList.length = a.size := rfl
    have e2 : b.data.toList.length = b.size := rfl
    omega
  obtain ⟨h3, h4⟩ := List.append_inj h2 hl
  refine ⟨?_, h4⟩
  cases a; cases b
  congr 1
  exact Array.toList_inj.1 h3
theorem ens_pre : ∀ (a b : List En), a.length = b.length → Short a → Short b → ensB a = ensB b → a = b
  | [], [], _, _, _, _ => rfl
  | [], _ :: _, h, _, _, _ => by simp at h
  | _ :: _, [], h, _, _, _ => by simp at h
  | x :: a, y :: b, hl, ha, hb, h => by
    have e1 : ∀ (x : En) (a : List En), ensB (x :: a) = textB x.1 ++ (textB x.2 ++ ensB a) := fun x a => by simp [ensB, enB]
    rw [e1, e1] at h
    have hx := ha x List.mem_cons_self
    have hy := hb y List.mem_cons_self
    obtain ⟨h1, h2⟩ := text_pre (by omega) (by omega) h
    obtain ⟨h3, h4⟩ := text_pre (by omega) (by omega) h2
    have h5 := ens_pre a b (by simpa using hl) (fun z hz => ha z (List.mem_cons_of_mem _ hz)) (fun z hz => hb z (List.mem_cons_of_mem _ hz)) h4
    rw [h5, show x = y from Prod.ext h1 h3]
theorem fix2 (v : Nat) : W.fixB v 2 = [UInt8.ofNat (v / 256), UInt8.ofNat v] := by
  simp [W.fixB, List.range_succ]
theorem fix2_inj {v w : Nat} (hv : v < 65536) (hw : w < 65536) (h : W.fixB v 2 = W.fixB w 2) : v = w := by
  rw [fix2, fix2] at h
  simp only [List.cons.injEq, and_true] at h
  have h1 := congrArg UInt8.toNat h.1
  have h2 := congrArg UInt8.toNat h.2
  simp at h1 h2
  omega
theorem form_inj {n m : Nat} {a b : List En} (hn : n < 4096) (hm : m < 4096) (ha : Short a) (hb : Short b) (la : a.length < 18446744073709551616) (lb : b.length < 18446744073709551616) : formB n a = formB m b ↔ n = m ∧ a = b := by
  refine ⟨fun h => ?_, fun h => by rw [h.1, h.2]⟩
  have h1 : formL n a = formL m b := by
    unfold formB at h
    have := congrArg (fun x : ByteArray => x.data.toList) h
    simpa using this
  unfold formL at h1
  have h2 := (List.cons.inj h1).2
  obtain ⟨h3, h4⟩ := List.append_inj h2 (by rw [W.fixB_length, W.fixB_length])
  obtain ⟨h5, h6⟩ := uint_pre la lb h4
  exact ⟨fix2_inj (by omega) (by omega) h3, ens_pre a b h5 ha hb h6⟩
/- copies -/
theorem atNew {u W : World} {l : List En} {ao : Option Addr} {n c : Nat} (h : El u l ao n c) (hb : Below u.heap.size u W) (o : Obj) : RE.At (W.alloc o) l ao c := (h.below (hb.alloc hb.size o)).toAt
theorem szNew (W : World) (o : Obj) : W.heap.size ≤ (W.alloc o).heap.size := ((Below.refl W.heap.size W).alloc (Nat.le_refl _) o).size
theorem El.l0 {w : World} {l : List En} {ao : Option Addr} {n c : Nat} (h : El w l ao n c) : (([] : List En).length + l.length) * 32 ≤ 140737488355328 := by
  have := h.many
  rw [List.length_nil]; omega
theorem Rec.Put.below0 {W W' : World} {l m : List En} {ao ao' : Option Addr} {c n' c' : Nat} (h : RE.Put (W.alloc (.cells #[] 43)) W' W.heap.size l m ao c ao' n' c') : Below W.heap.size W W' := ((Below.refl W.heap.size W).alloc (Nat.le_refl _) _).trans h.below
theorem empty_list : (⟨#[]⟩ : ByteArray).toList = [] := by decide +kernel
theorem size0 {k : ByteArray} (h : k.size = 0) : k = ⟨#[]⟩ := by
  cases k with
  | mk d =>
    have : d = #[] := Array.eq_empty_of_size_eq_zero h
    rw [this]
set_option maxRecDepth 100000 in
set_option maxHeartbeats 16000000 in
theorem sums14_walk (n m : Int) (a b : List En) (ao bo : Option Addr) (na mb c d : Nat) (wd : Int) (u : World) (ha : El u a ao na c) (hb : El u b bo mb d) (hna : na ≤ 1099511627776) (hmb : mb ≤ 1099511627776) (hka : ∀ e ∈ a, e.1.size ≤ 140737488355328) : Calls Try.prog 12 #[.int .i64 n, .int .i64 m, .slice ao na c, .slice bo mb d, .int .i64 wd] u fun e u' => e = .returned (.bool true) ∧ Below u.heap.size u u' := by
  have HA := hide ha
  have HB := hide hb
  have HNA := hide ha.hn
  have HNB := hide hb.hn
  have HKA := hide hka
  have hnai : (na : Int) ≤ 1099511627776 := by omega
  have hmbi : (mb : Int) ≤ 1099511627776 := by omega
  have HAW := hide (lAwake u)
  have HL1 := hide fun (G : World) (hG : Below u.heap.size u G) => qList a ao na c G (ha.below hG)
  have HL2 := hide fun (G : World) (hG : Below u.heap.size u G) => qList b bo mb d G (hb.below hG)
  have HF1 : Hid (∀ (fb : ByteArray) (fr : Int), formV n a = (fb, fr) → ∀ (G : World) (xo : Option Addr) (cc : Nat), El G a xo na cc → Calls Try.prog 20 #[.int .i64 n, .slice xo na cc] G fun e u' => e = .returned (.tuple #[.string fb, .int .i64 fr]) ∧ Below G.heap.size G u') := fun fb fr hv G xo cc hG => sForm n a xo na cc G hG hna fb fr hv
  have HF2 : Hid (∀ (fb : ByteArray) (fr : Int), formV m b = (fb, fr) → ∀ (G : World) (xo : Option Addr) (cc : Nat), El G b xo mb cc → Calls Try.prog 20 #[.int .i64 m, .slice xo mb cc] G fun e u' => e = .returned (.tuple #[.string fb, .int .i64 fr]) ∧ Below G.heap.size G u') := fun fb fr hv G xo cc hG => sForm m b xo mb cc G hG hmb fb fr hv
  have HS1 : Hid (∀ (sb : ByteArray) (sr : Int), sumV n a wd = (sb, sr) → ∀ (G : World) (xo : Option Addr) (cc : Nat), El G a xo na cc → Calls Try.prog 21 #[.int .i64 n, .slice xo na cc, .int .i64 wd] G fun e u' => e = .returned (.tuple #[.string sb, .int .i64 sr]) ∧ Below G.heap.size G u') := fun sb sr hv G xo cc hG => sSum n a xo na cc wd G hG hna sb sr hv
  have HV1 := hide fun (G : World) (hG : Below u.heap.size u G) => qValid a ao na c wd G (ha.below hG)
  have HSM := hide fun (G : World) (hG : Below u.heap.size u G) => qSame a b ao bo na mb c d G (ha.below hG) (hb.below hG)
  have HFI : Hid (∀ (p q : Nat), p < 4096 → q < 4096 → liB a = true → liB b = true → (formB p a = formB q b ↔ p = q ∧ a = b)) := fun p q hp hq h1 h2 => form_inj hp hq (liShort h1) (liShort h2) (by rw [← ha.hn]; omega) (by rw [← hb.hn]; omega)
  have HFS : Hid (∀ p : Nat, liB a = true → (formB p a).size ≤ 140737488351232) := fun p h1 => formB_size (liShort h1) (by rw [← ha.hn]; exact hna)
  clear ha hb hna hmb hka
  go_enter Try.func12, Try.ntmps12
  go_wp2_with (first
    | (go_at_call 49; refine (unhide HAW).mono ?_; rintro e W1 ⟨rfl, hb⟩; have HB1 := hide hb; clear hb)
    | fail)
  go_loopw [11] (fun i wr => ∃ k : Nat, k ≤ na ∧ i = .int .i64 k ∧ Hid (Below u.heap.size u wr)) (fun i _ => na - (intOf i).toNat)
  case atStart => exact ⟨0, Nat.zero_le _, rfl, unhide HB1⟩
  case round =>
    clear HB1
    obtain ⟨k, hk, rfl, HI⟩ := hrel
    by_cases hlt : k < na
    · have hki : (k : Int) < (na : Int) := by omega
      have hkl : k < a.length := by rw [← unhide HNA]; exact hlt
      obtain ⟨g, o, hao, -, -⟩ := ((unhide HA).below (unhide HI)).en hkl
      have HC : Hid (∀ W : World, Below u.heap.size u W → W.cell? ⟨g, o + k * 2, none⟩ = some (.string a[k].1)) := fun W hW => by
        obtain ⟨g', o', h1, h2, _⟩ := ((unhide HA).below hW).en hkl
        rw [hao] at h1
        cases h1
        exact h2
      have hks := unhide HKA _ (List.getElem_mem hkl)
      rw [hao] at *
      have hix := ixE g o na c k hlt
      have HOF := hide (sOf a[k].1)
      clear HL1 HF1 HS1 HV1 HSM HFI HFS HKA HA HL2 HF2
      generalize a[k].1 = kk at *
      generalize o + k * 2 = oo at *
      have c0 := unhide HC _ (unhide HI)
      have hksi : (kk.size : Int) ≤ 140737488355328 := by omega
      by_cases hky : keyE kk = 0
      · obtain ⟨p, hp⟩ : ∃ p, p = plN kk := ⟨_, rfl⟩
        have hpl : p < 4096 := by rw [hp]; exact plN_lt _
        rw [show ofI kk = (p : Int) by unfold ofI; rw [if_pos hky, hp]] at HOF
        have hsz := keyE_zero.1 hky
        have h1 : ¬ (p : Int) < -1 := by omega
        have h2 : ¬ (p : Int) > 4095 := by omega
        have h3 : ((p : Int) == -1) = false := beq_false_of_ne (by omega)
        have h3' : ¬ (p : Int) = -1 := by omega
        have h4 : ¬ kk.toList = [] := fun e => by
          have := ba_list (e.trans empty_list.symm)
          rw [this] at hsz
          exact absurd hsz.1 (by decide)
        have h5 : (kk.toList == ([] : List UInt8)) = false := by rw [beq_eq_false_iff_ne]; exact h4
        have h6 : (kk.toList == (⟨#[]⟩ : ByteArray).toList) = false := by rw [empty_list]; exact h5
        have h7 : ¬ (kk.size : Int) > 32 := by omega
        clear hp hky hsz hpl hks
        go_wp2_with (first
          | (go_at_call 15; refine (unhide HOF _).mono ?_; rintro e W2 ⟨rfl, hb⟩; have HB2 : Hid (Below u.heap.size u W2) := Below.step (unhide HI) hb; have d0 := unhide HC _ (unhide HB2); clear hb c0)
          | fail)
        go_wp2
        go_roundw
        case rel => exact ⟨k + 1, by omega, by go_num, unhide HB2⟩
        case measure => simp [intOf]; omega
      · rw [show ofI kk = -1 by unfold ofI; rw [if_neg hky]] at HOF
        by_cases hz : kk.size = 0
        · obtain rfl := size0 hz
          clear hky hz hks hksi
          go_wp2_with (first
            | (go_at_call 15; refine (unhide HOF _).mono ?_; rintro e W2 ⟨rfl, hb⟩; have HB2 : Hid (Below u.heap.size u W2) := Below.step (unhide HI) hb; have d0 := unhide HC _ (unhide HB2); clear hb c0)
            | fail)
          go_wp2
          go_roundw
          case rel => exact ⟨k + 1, by omega, by go_num, unhide HB2⟩
          case measure => simp [intOf]; omega
        · have h7 : (kk.size : Int) > 32 := by
            have : ¬ (1 ≤ kk.size ∧ kk.size ≤ 32) := fun h => hky (keyE_zero.2 h)
            omega
          have h4 : ¬ kk.toList = [] := fun e => hz (by rw [ba_list (e.trans empty_list.symm)]; rfl)
          have h5 : (kk.toList == ([] : List UInt8)) = false := by rw [beq_eq_false_iff_ne]; exact h4
          have h6 : (kk.toList == (⟨#[]⟩ : ByteArray).toList) = false := by rw [empty_list]; exact h5
          clear hky hz hks
          go_wp2_with (first
            | (go_at_call 15; refine (unhide HOF _).mono ?_; rintro e W2 ⟨rfl, hb⟩; have HB2 : Hid (Below u.heap.size u W2) := Below.step (unhide HI) hb; have d0 := unhide HC _ (unhide HB2); clear hb c0)
            | fail)
          go_wp2
          go_roundw
          case rel => exact ⟨k + 1, by omega, by go_num, unhide HB2⟩
          case measure => simp [intOf]; omega
    · obtain rfl : k = na := by omega
      have hki : ¬ (k : Int) < (k : Int) := by omega
      clear HKA
      by_cases hpn : segP n
      · have s1pn : ¬ n < 0 := by have := hpn.1; omega
        have s2pn : ¬ n > 4095 := by have := hpn.2; omega
        by_cases hpm : segP m
        · have s1pm : ¬ m < 0 := by have := hpm.1; omega
          have s2pm : ¬ m > 4095 := by have := hpm.2; omega
          by_cases hla : liB a = true
          · by_cases hlb : liB b = true
            · obtain ⟨p, rfl⟩ := Int.eq_ofNat_of_zero_le hpn.1
              obtain ⟨q, rfl⟩ := Int.eq_ofNat_of_zero_le hpm.1
              have hp4 : p < 4096 := by have := hpn.2; omega
              have hq4 : q < 4096 := by have := hpm.2; omega
              replace HF1 := hide (unhide HF1 (formB p a) 0 (by unfold formV; rw [if_pos hpn, if_pos hla, Int.toNat_natCast]))
              replace HF2 := hide (unhide HF2 (formB q b) 0 (by unfold formV; rw [if_pos hpm, if_pos hlb, Int.toNat_natCast]))
              have hfi := unhide HFI p q hp4 hq4 hla hlb
              rw [hla] at HL1
              rw [hlb] at HL2
              by_cases hpq : p = q
              · subst hpq
                have hxy : ((formB p a).toList == (formB p b).toList) = decide (a = b) := by
                  rw [ba_beq, decide_eq_decide, hfi]
                  exact ⟨fun h => h.2, fun h => ⟨rfl, h⟩⟩
                generalize formB p b = fb at *
                generalize decide (a = b) = sm at *
                clear hfi hpm hq4 hp4
                by_cases hok : okB a wd = true
                · have hw := (okB_true.1 hok).1
                  rw [hok] at HV1
                  by_cases h0 : a.length = 0
                  · replace HS1 := hide (unhide HS1 eB 0 (by unfold sumV; rw [if_pos ⟨hpn, hw⟩, if_pos hok, if_pos h0]))
                    have hk0 : k = 0 := (unhide HNA).trans h0
                    have hkz : ((k : Int) == 0) = true := by rw [hk0]; rfl
                    have hkz2 : (k : Int) = 0 := by rw [hk0]; rfl
                    have HCT : Hid True := trivial
                    unfold eB at HS1
                    clear hok hw h0 hk0
                    go_wp2_with (first
                      | (go_at_call_of 50 (Value.slice ao k c); refine (unhide HL1 _ (unhide HI)).mono ?_; rintro e W2 ⟨rfl, hb⟩; have HB2 : Hid (Below u.heap.size u W2) := Below.step (unhide HI) hb; clear hb)
                      | (go_at_call 50; refine (unhide HL2 _ (unhide HB2)).mono ?_; rintro e W3 ⟨rfl, hb⟩; have HB3 : Hid (Below u.heap.size u W3) := Below.step (unhide HB2) hb; clear hb)
                      | (at_builtin; (with_reducible refine wpList_putE (by rfl) (.tmp 85) (.tmp 86) (by rfl) (some 87) (by rfl) W3.heap.size [] a 0 k rfl (unhide HNA) (some ⟨W3.heap.size, 0, none⟩) ao 0 c (by with_unfolding_all rfl) (by with_unfolding_all rfl) (Own.empty W3 _ (Nat.le_refl _)) (atNew (unhide HA) (unhide HB3) _) (unhide HA).l0 (szNew W3 _) ?_); intro x4 n4 c4 W4 HP4; simp only [Act.put, List.setIfInBounds_toArray, List.set_cons_zero, List.set_cons_succ]; have HB4 : Hid (Below u.heap.size u W4) := Below.step (unhide HB3) ((unhide HP4).below0); have hn4 : k = n4 := ((unhide HP4).len.trans (unhide HNA).symm).symm; subst hn4; have HN4 : Hid (El W4 a x4 k c4) := ⟨(unhide HP4).own.at (unhide HA).many, unhide HNA⟩)
                      | (go_at_call_of 20 (Value.slice x4 k c4); refine (unhide HF1 W4 x4 c4 (unhide HN4)).mono ?_; rintro e W5 ⟨rfl, hb⟩; have HB5 : Hid (Below u.heap.size u W5) := Below.step (unhide HB4) hb; clear hb)
                      | (at_builtin; (with_reducible refine wpList_putE (by rfl) (.tmp 93) (.tmp 94) (by rfl) (some 95) (by rfl) W5.heap.size [] b 0 mb rfl (unhide HNB) (some ⟨W5.heap.size, 0, none⟩) bo 0 d (by with_unfolding_all rfl) (by with_unfolding_all rfl) (Own.empty W5 _ (Nat.le_refl _)) (atNew (unhide HB) (unhide HB5) _) (unhide HB).l0 (szNew W5 _) ?_); intro x6 n6 c6 W6 HP6; simp only [Act.put, List.setIfInBounds_toArray, List.set_cons_zero, List.set_cons_succ]; have HB6 : Hid (Below u.heap.size u W6) := Below.step (unhide HB5) ((unhide HP6).below0); have hn6 : mb = n6 := ((unhide HP6).len.trans (unhide HNB).symm).symm; subst hn6; have HN6 : Hid (El W6 b x6 mb c6) := ⟨(unhide HP6).own.at (unhide HB).many, unhide HNB⟩)
                      | (go_at_call_of 20 (Value.slice x6 mb c6); refine (unhide HF2 W6 x6 c6 (unhide HN6)).mono ?_; rintro e W7 ⟨rfl, hb⟩; have HB7 : Hid (Below u.heap.size u W7) := Below.step (unhide HB6) hb; clear hb)
                      | (go_at_call 37; refine (unhide HSM _ (unhide HB7)).mono ?_; rintro e W7s ⟨rfl, hb⟩; have HB7s : Hid (Below u.heap.size u W7s) := Below.step (unhide HB7) hb; clear hb)
                      | (at_builtin; (with_reducible refine wpList_putE (by rfl) (.tmp 121) (.tmp 122) (by rfl) (some 123) (by rfl) W7s.heap.size [] a 0 k rfl (unhide HNA) (some ⟨W7s.heap.size, 0, none⟩) ao 0 c (by with_unfolding_all rfl) (by with_unfolding_all rfl) (Own.empty W7s _ (Nat.le_refl _)) (atNew (unhide HA) (unhide HB7s) _) (unhide HA).l0 (szNew W7s _) ?_); intro x8 n8 c8 W8 HP8; simp only [Act.put, List.setIfInBounds_toArray, List.set_cons_zero, List.set_cons_succ]; have HB8 : Hid (Below u.heap.size u W8) := Below.step (unhide HB7s) ((unhide HP8).below0); have hn8 : k = n8 := ((unhide HP8).len.trans (unhide HNA).symm).symm; subst hn8; have HN8 : Hid (El W8 a x8 k c8) := ⟨(unhide HP8).own.at (unhide HA).many, unhide HNA⟩)
                      | (go_at_call 21; refine (unhide HS1 W8 x8 c8 (unhide HN8)).mono ?_; rintro e W9 ⟨rfl, hb⟩; have HB9 : Hid (Below u.heap.size u W9) := Below.step (unhide HB8) hb; clear hb)
                      | (go_at_call 23; refine (unhide HV1 _ (unhide HB9)).mono ?_; rintro e W10 ⟨rfl, hb⟩; have HB10 : Hid (Below u.heap.size u W10) := Below.step (unhide HB9) hb; clear hb)
                      | fail
                      | fail)
                    go_ret
                    exact ⟨rfl, unhide HB10⟩
                  · obtain ⟨kw, hkw⟩ := Int.eq_ofNat_of_zero_le (show 0 ≤ wd by have := hw.1; omega)
                    have hkw1 : 1 ≤ kw := by have := hw.1; omega
                    have hkw2 : kw ≤ 32 := by have := hw.2; omega
                    replace HS1 := hide (unhide HS1 (D.cutS (formB p a) kw) 0 (by unfold sumV; rw [if_pos ⟨hpn, hw⟩, if_pos hok, if_neg h0, hkw, Int.toNat_natCast, Int.toNat_natCast]))
                    have HCT := hide fun G : World => D.dCut (formB p a) kw (by have := unhide HFS p hla; omega) hkw1 hkw2 G
                    have hcz : ((D.cutS (formB p a) kw).size : Int) = (kw : Int) := by rw [D.cutS_size _ _ hkw2]
                    have hcz2 : (((D.cutS (formB p a) kw).size : Int) == (kw : Int)) = true := by rw [hcz]; simp
                    have hkz : ((k : Int) == 0) = false := beq_false_of_ne (by rw [unhide HNA]; omega)
                    have hkz2 : ¬ (k : Int) = 0 := by rw [unhide HNA]; omega
                    subst hkw
                    generalize D.cutS (formB p a) kw = cs at *
                    generalize formB p a = fa at *
                    clear hok hw h0 hpn hkw1 hkw2
                    go_wp2_with (first
                      | (go_at_call_of 50 (Value.slice ao k c); refine (unhide HL1 _ (unhide HI)).mono ?_; rintro e W2 ⟨rfl, hb⟩; have HB2 : Hid (Below u.heap.size u W2) := Below.step (unhide HI) hb; clear hb)
                      | (go_at_call 50; refine (unhide HL2 _ (unhide HB2)).mono ?_; rintro e W3 ⟨rfl, hb⟩; have HB3 : Hid (Below u.heap.size u W3) := Below.step (unhide HB2) hb; clear hb)
                      | (at_builtin; (with_reducible refine wpList_putE (by rfl) (.tmp 85) (.tmp 86) (by rfl) (some 87) (by rfl) W3.heap.size [] a 0 k rfl (unhide HNA) (some ⟨W3.heap.size, 0, none⟩) ao 0 c (by with_unfolding_all rfl) (by with_unfolding_all rfl) (Own.empty W3 _ (Nat.le_refl _)) (atNew (unhide HA) (unhide HB3) _) (unhide HA).l0 (szNew W3 _) ?_); intro x4 n4 c4 W4 HP4; simp only [Act.put, List.setIfInBounds_toArray, List.set_cons_zero, List.set_cons_succ]; have HB4 : Hid (Below u.heap.size u W4) := Below.step (unhide HB3) ((unhide HP4).below0); have hn4 : k = n4 := ((unhide HP4).len.trans (unhide HNA).symm).symm; subst hn4; have HN4 : Hid (El W4 a x4 k c4) := ⟨(unhide HP4).own.at (unhide HA).many, unhide HNA⟩)
                      | (go_at_call_of 20 (Value.slice x4 k c4); refine (unhide HF1 W4 x4 c4 (unhide HN4)).mono ?_; rintro e W5 ⟨rfl, hb⟩; have HB5 : Hid (Below u.heap.size u W5) := Below.step (unhide HB4) hb; clear hb)
                      | (at_builtin; (with_reducible refine wpList_putE (by rfl) (.tmp 93) (.tmp 94) (by rfl) (some 95) (by rfl) W5.heap.size [] b 0 mb rfl (unhide HNB) (some ⟨W5.heap.size, 0, none⟩) bo 0 d (by with_unfolding_all rfl) (by with_unfolding_all rfl) (Own.empty W5 _ (Nat.le_refl _)) (atNew (unhide HB) (unhide HB5) _) (unhide HB).l0 (szNew W5 _) ?_); intro x6 n6 c6 W6 HP6; simp only [Act.put, List.setIfInBounds_toArray, List.set_cons_zero, List.set_cons_succ]; have HB6 : Hid (Below u.heap.size u W6) := Below.step (unhide HB5) ((unhide HP6).below0); have hn6 : mb = n6 := ((unhide HP6).len.trans (unhide HNB).symm).symm; subst hn6; have HN6 : Hid (El W6 b x6 mb c6) := ⟨(unhide HP6).own.at (unhide HB).many, unhide HNB⟩)
                      | (go_at_call_of 20 (Value.slice x6 mb c6); refine (unhide HF2 W6 x6 c6 (unhide HN6)).mono ?_; rintro e W7 ⟨rfl, hb⟩; have HB7 : Hid (Below u.heap.size u W7) := Below.step (unhide HB6) hb; clear hb)
                      | (go_at_call 37; refine (unhide HSM _ (unhide HB7)).mono ?_; rintro e W7s ⟨rfl, hb⟩; have HB7s : Hid (Below u.heap.size u W7s) := Below.step (unhide HB7) hb; clear hb)
                      | (at_builtin; (with_reducible refine wpList_putE (by rfl) (.tmp 121) (.tmp 122) (by rfl) (some 123) (by rfl) W7s.heap.size [] a 0 k rfl (unhide HNA) (some ⟨W7s.heap.size, 0, none⟩) ao 0 c (by with_unfolding_all rfl) (by with_unfolding_all rfl) (Own.empty W7s _ (Nat.le_refl _)) (atNew (unhide HA) (unhide HB7s) _) (unhide HA).l0 (szNew W7s _) ?_); intro x8 n8 c8 W8 HP8; simp only [Act.put, List.setIfInBounds_toArray, List.set_cons_zero, List.set_cons_succ]; have HB8 : Hid (Below u.heap.size u W8) := Below.step (unhide HB7s) ((unhide HP8).below0); have hn8 : k = n8 := ((unhide HP8).len.trans (unhide HNA).symm).symm; subst hn8; have HN8 : Hid (El W8 a x8 k c8) := ⟨(unhide HP8).own.at (unhide HA).many, unhide HNA⟩)
                      | (go_at_call 21; refine (unhide HS1 W8 x8 c8 (unhide HN8)).mono ?_; rintro e W9 ⟨rfl, hb⟩; have HB9 : Hid (Below u.heap.size u W9) := Below.step (unhide HB8) hb; clear hb)
                      | (go_at_call 23; refine (unhide HV1 _ (unhide HB9)).mono ?_; rintro e W10 ⟨rfl, hb⟩; have HB10 : Hid (Below u.heap.size u W10) := Below.step (unhide HB9) hb; clear hb)
                      | (go_at_call 52; refine (unhide HCT _).mono ?_; rintro e W11 ⟨rfl, hb⟩; have HB11 : Hid (Below u.heap.size u W11) := Below.step (unhide HB10) hb; clear hb)
                      | fail)
                    go_ret
                    exact ⟨rfl, unhide HB11⟩
                · rw [Bool.not_eq_true] at hok
                  rw [hok] at HV1
                  obtain ⟨sr, hsr, hsv⟩ : ∃ sr : Int, sr ≠ 0 ∧ sumV p a wd = (eB, sr) := by
                    unfold sumV
                    by_cases hw : widP wd
                    · exact ⟨140, by decide, by rw [if_pos ⟨hpn, hw⟩, if_neg (by rw [hok]; decide)]⟩
                    · exact ⟨1, by decide, by rw [if_neg (fun h => hw h.2)]⟩
                  replace HS1 := hide (unhide HS1 eB sr hsv)
                  have hsb : (sr != 0) = true := by simpa using hsr
                  have hsc : (sr == 0) = false := by simpa using hsr
                  have HCT : Hid True := trivial
                  unfold eB at HS1
                  clear hok hsv
                  go_wp2_with (first
                    | (go_at_call_of 50 (Value.slice ao k c); refine (unhide HL1 _ (unhide HI)).mono ?_; rintro e W2 ⟨rfl, hb⟩; have HB2 : Hid (Below u.heap.size u W2) := Below.step (unhide HI) hb; clear hb)
                    | (go_at_call 50; refine (unhide HL2 _ (unhide HB2)).mono ?_; rintro e W3 ⟨rfl, hb⟩; have HB3 : Hid (Below u.heap.size u W3) := Below.step (unhide HB2) hb; clear hb)
                    | (at_builtin; (with_reducible refine wpList_putE (by rfl) (.tmp 85) (.tmp 86) (by rfl) (some 87) (by rfl) W3.heap.size [] a 0 k rfl (unhide HNA) (some ⟨W3.heap.size, 0, none⟩) ao 0 c (by with_unfolding_all rfl) (by with_unfolding_all rfl) (Own.empty W3 _ (Nat.le_refl _)) (atNew (unhide HA) (unhide HB3) _) (unhide HA).l0 (szNew W3 _) ?_); intro x4 n4 c4 W4 HP4; simp only [Act.put, List.setIfInBounds_toArray, List.set_cons_zero, List.set_cons_succ]; have HB4 : Hid (Below u.heap.size u W4) := Below.step (unhide HB3) ((unhide HP4).below0); have hn4 : k = n4 := ((unhide HP4).len.trans (unhide HNA).symm).symm; subst hn4; have HN4 : Hid (El W4 a x4 k c4) := ⟨(unhide HP4).own.at (unhide HA).many, unhide HNA⟩)
                    | (go_at_call_of 20 (Value.slice x4 k c4); refine (unhide HF1 W4 x4 c4 (unhide HN4)).mono ?_; rintro e W5 ⟨rfl, hb⟩; have HB5 : Hid (Below u.heap.size u W5) := Below.step (unhide HB4) hb; clear hb)
                    | (at_builtin; (with_reducible refine wpList_putE (by rfl) (.tmp 93) (.tmp 94) (by rfl) (some 95) (by rfl) W5.heap.size [] b 0 mb rfl (unhide HNB) (some ⟨W5.heap.size, 0, none⟩) bo 0 d (by with_unfolding_all rfl) (by with_unfolding_all rfl) (Own.empty W5 _ (Nat.le_refl _)) (atNew (unhide HB) (unhide HB5) _) (unhide HB).l0 (szNew W5 _) ?_); intro x6 n6 c6 W6 HP6; simp only [Act.put, List.setIfInBounds_toArray, List.set_cons_zero, List.set_cons_succ]; have HB6 : Hid (Below u.heap.size u W6) := Below.step (unhide HB5) ((unhide HP6).below0); have hn6 : mb = n6 := ((unhide HP6).len.trans (unhide HNB).symm).symm; subst hn6; have HN6 : Hid (El W6 b x6 mb c6) := ⟨(unhide HP6).own.at (unhide HB).many, unhide HNB⟩)
                    | (go_at_call_of 20 (Value.slice x6 mb c6); refine (unhide HF2 W6 x6 c6 (unhide HN6)).mono ?_; rintro e W7 ⟨rfl, hb⟩; have HB7 : Hid (Below u.heap.size u W7) := Below.step (unhide HB6) hb; clear hb)
                    | (go_at_call 37; refine (unhide HSM _ (unhide HB7)).mono ?_; rintro e W7s ⟨rfl, hb⟩; have HB7s : Hid (Below u.heap.size u W7s) := Below.step (unhide HB7) hb; clear hb)
                    | (at_builtin; (with_reducible refine wpList_putE (by rfl) (.tmp 121) (.tmp 122) (by rfl) (some 123) (by rfl) W7s.heap.size [] a 0 k rfl (unhide HNA) (some ⟨W7s.heap.size, 0, none⟩) ao 0 c (by with_unfolding_all rfl) (by with_unfolding_all rfl) (Own.empty W7s _ (Nat.le_refl _)) (atNew (unhide HA) (unhide HB7s) _) (unhide HA).l0 (szNew W7s _) ?_); intro x8 n8 c8 W8 HP8; simp only [Act.put, List.setIfInBounds_toArray, List.set_cons_zero, List.set_cons_succ]; have HB8 : Hid (Below u.heap.size u W8) := Below.step (unhide HB7s) ((unhide HP8).below0); have hn8 : k = n8 := ((unhide HP8).len.trans (unhide HNA).symm).symm; subst hn8; have HN8 : Hid (El W8 a x8 k c8) := ⟨(unhide HP8).own.at (unhide HA).many, unhide HNA⟩)
                    | (go_at_call 21; refine (unhide HS1 W8 x8 c8 (unhide HN8)).mono ?_; rintro e W9 ⟨rfl, hb⟩; have HB9 : Hid (Below u.heap.size u W9) := Below.step (unhide HB8) hb; clear hb)
                    | (go_at_call 23; refine (unhide HV1 _ (unhide HB9)).mono ?_; rintro e W10 ⟨rfl, hb⟩; have HB10 : Hid (Below u.heap.size u W10) := Below.step (unhide HB9) hb; clear hb)
                    | fail
                    | fail)
                  go_ret
                  exact ⟨rfl, unhide HB10⟩
              · have hq1 : ((p : Int) == (q : Int)) = false := beq_false_of_ne (by omega)
                have hq2 : ¬ (p : Int) = (q : Int) := by omega
                have hne : formB p a ≠ formB q b := fun h => hpq (hfi.1 h).1
                have hxy : ((formB p a).toList == (formB q b).toList) = false := by rw [ba_beq]; exact decide_eq_false hne
                have hxy2 : ¬ (formB p a).toList = (formB q b).toList := fun e => hne (ba_list e)
                generalize formB q b = fb at *
                clear hfi hpq hpm hq4 hp4 hne HSM
                by_cases hok : okB a wd = true
                · have hw := (okB_true.1 hok).1
                  rw [hok] at HV1
                  by_cases h0 : a.length = 0
                  · replace HS1 := hide (unhide HS1 eB 0 (by unfold sumV; rw [if_pos ⟨hpn, hw⟩, if_pos hok, if_pos h0]))
                    have hk0 : k = 0 := (unhide HNA).trans h0
                    have hkz : ((k : Int) == 0) = true := by rw [hk0]; rfl
                    have hkz2 : (k : Int) = 0 := by rw [hk0]; rfl
                    have HCT : Hid True := trivial
                    unfold eB at HS1
                    clear hok hw h0 hk0
                    go_wp2_with (first
                      | (go_at_call_of 50 (Value.slice ao k c); refine (unhide HL1 _ (unhide HI)).mono ?_; rintro e W2 ⟨rfl, hb⟩; have HB2 : Hid (Below u.heap.size u W2) := Below.step (unhide HI) hb; clear hb)
                      | (go_at_call 50; refine (unhide HL2 _ (unhide HB2)).mono ?_; rintro e W3 ⟨rfl, hb⟩; have HB3 : Hid (Below u.heap.size u W3) := Below.step (unhide HB2) hb; clear hb)
                      | (at_builtin; (with_reducible refine wpList_putE (by rfl) (.tmp 85) (.tmp 86) (by rfl) (some 87) (by rfl) W3.heap.size [] a 0 k rfl (unhide HNA) (some ⟨W3.heap.size, 0, none⟩) ao 0 c (by with_unfolding_all rfl) (by with_unfolding_all rfl) (Own.empty W3 _ (Nat.le_refl _)) (atNew (unhide HA) (unhide HB3) _) (unhide HA).l0 (szNew W3 _) ?_); intro x4 n4 c4 W4 HP4; simp only [Act.put, List.setIfInBounds_toArray, List.set_cons_zero, List.set_cons_succ]; have HB4 : Hid (Below u.heap.size u W4) := Below.step (unhide HB3) ((unhide HP4).below0); have hn4 : k = n4 := ((unhide HP4).len.trans (unhide HNA).symm).symm; subst hn4; have HN4 : Hid (El W4 a x4 k c4) := ⟨(unhide HP4).own.at (unhide HA).many, unhide HNA⟩)
                      | (go_at_call_of 20 (Value.slice x4 k c4); refine (unhide HF1 W4 x4 c4 (unhide HN4)).mono ?_; rintro e W5 ⟨rfl, hb⟩; have HB5 : Hid (Below u.heap.size u W5) := Below.step (unhide HB4) hb; clear hb)
                      | (at_builtin; (with_reducible refine wpList_putE (by rfl) (.tmp 93) (.tmp 94) (by rfl) (some 95) (by rfl) W5.heap.size [] b 0 mb rfl (unhide HNB) (some ⟨W5.heap.size, 0, none⟩) bo 0 d (by with_unfolding_all rfl) (by with_unfolding_all rfl) (Own.empty W5 _ (Nat.le_refl _)) (atNew (unhide HB) (unhide HB5) _) (unhide HB).l0 (szNew W5 _) ?_); intro x6 n6 c6 W6 HP6; simp only [Act.put, List.setIfInBounds_toArray, List.set_cons_zero, List.set_cons_succ]; have HB6 : Hid (Below u.heap.size u W6) := Below.step (unhide HB5) ((unhide HP6).below0); have hn6 : mb = n6 := ((unhide HP6).len.trans (unhide HNB).symm).symm; subst hn6; have HN6 : Hid (El W6 b x6 mb c6) := ⟨(unhide HP6).own.at (unhide HB).many, unhide HNB⟩)
                      | (go_at_call_of 20 (Value.slice x6 mb c6); refine (unhide HF2 W6 x6 c6 (unhide HN6)).mono ?_; rintro e W7 ⟨rfl, hb⟩; have HB7 : Hid (Below u.heap.size u W7) := Below.step (unhide HB6) hb; clear hb)
                      | (at_builtin; (with_reducible refine wpList_putE (by rfl) (.tmp 121) (.tmp 122) (by rfl) (some 123) (by rfl) W7.heap.size [] a 0 k rfl (unhide HNA) (some ⟨W7.heap.size, 0, none⟩) ao 0 c (by with_unfolding_all rfl) (by with_unfolding_all rfl) (Own.empty W7 _ (Nat.le_refl _)) (atNew (unhide HA) (unhide HB7) _) (unhide HA).l0 (szNew W7 _) ?_); intro x8 n8 c8 W8 HP8; simp only [Act.put, List.setIfInBounds_toArray, List.set_cons_zero, List.set_cons_succ]; have HB8 : Hid (Below u.heap.size u W8) := Below.step (unhide HB7) ((unhide HP8).below0); have hn8 : k = n8 := ((unhide HP8).len.trans (unhide HNA).symm).symm; subst hn8; have HN8 : Hid (El W8 a x8 k c8) := ⟨(unhide HP8).own.at (unhide HA).many, unhide HNA⟩)
                      | (go_at_call 21; refine (unhide HS1 W8 x8 c8 (unhide HN8)).mono ?_; rintro e W9 ⟨rfl, hb⟩; have HB9 : Hid (Below u.heap.size u W9) := Below.step (unhide HB8) hb; clear hb)
                      | (go_at_call 23; refine (unhide HV1 _ (unhide HB9)).mono ?_; rintro e W10 ⟨rfl, hb⟩; have HB10 : Hid (Below u.heap.size u W10) := Below.step (unhide HB9) hb; clear hb)
                      | fail
                      | fail)
                    go_ret
                    exact ⟨rfl, unhide HB10⟩
                  · obtain ⟨kw, hkw⟩ := Int.eq_ofNat_of_zero_le (show 0 ≤ wd by have := hw.1; omega)
                    have hkw1 : 1 ≤ kw := by have := hw.1; omega
                    have hkw2 : kw ≤ 32 := by have := hw.2; omega
                    replace HS1 := hide (unhide HS1 (D.cutS (formB p a) kw) 0 (by unfold sumV; rw [if_pos ⟨hpn, hw⟩, if_pos hok, if_neg h0, hkw, Int.toNat_natCast, Int.toNat_natCast]))
                    have HCT := hide fun G : World => D.dCut (formB p a) kw (by have := unhide HFS p hla; omega) hkw1 hkw2 G
                    have hcz : ((D.cutS (formB p a) kw).size : Int) = (kw : Int) := by rw [D.cutS_size _ _ hkw2]
                    have hcz2 : (((D.cutS (formB p a) kw).size : Int) == (kw : Int)) = true := by rw [hcz]; simp
                    have hkz : ((k : Int) == 0) = false := beq_false_of_ne (by rw [unhide HNA]; omega)
                    have hkz2 : ¬ (k : Int) = 0 := by rw [unhide HNA]; omega
                    subst hkw
                    generalize D.cutS (formB p a) kw = cs at *
                    generalize formB p a = fa at *
                    clear hok hw h0 hpn hkw1 hkw2
                    go_wp2_with (first
                      | (go_at_call_of 50 (Value.slice ao k c); refine (unhide HL1 _ (unhide HI)).mono ?_; rintro e W2 ⟨rfl, hb⟩; have HB2 : Hid (Below u.heap.size u W2) := Below.step (unhide HI) hb; clear hb)
                      | (go_at_call 50; refine (unhide HL2 _ (unhide HB2)).mono ?_; rintro e W3 ⟨rfl, hb⟩; have HB3 : Hid (Below u.heap.size u W3) := Below.step (unhide HB2) hb; clear hb)
                      | (at_builtin; (with_reducible refine wpList_putE (by rfl) (.tmp 85) (.tmp 86) (by rfl) (some 87) (by rfl) W3.heap.size [] a 0 k rfl (unhide HNA) (some ⟨W3.heap.size, 0, none⟩) ao 0 c (by with_unfolding_all rfl) (by with_unfolding_all rfl) (Own.empty W3 _ (Nat.le_refl _)) (atNew (unhide HA) (unhide HB3) _) (unhide HA).l0 (szNew W3 _) ?_); intro x4 n4 c4 W4 HP4; simp only [Act.put, List.setIfInBounds_toArray, List.set_cons_zero, List.set_cons_succ]; have HB4 : Hid (Below u.heap.size u W4) := Below.step (unhide HB3) ((unhide HP4).below0); have hn4 : k = n4 := ((unhide HP4).len.trans (unhide HNA).symm).symm; subst hn4; have HN4 : Hid (El W4 a x4 k c4) := ⟨(unhide HP4).own.at (unhide HA).many, unhide HNA⟩)
                      | (go_at_call_of 20 (Value.slice x4 k c4); refine (unhide HF1 W4 x4 c4 (unhide HN4)).mono ?_; rintro e W5 ⟨rfl, hb⟩; have HB5 : Hid (Below u.heap.size u W5) := Below.step (unhide HB4) hb; clear hb)
                      | (at_builtin; (with_reducible refine wpList_putE (by rfl) (.tmp 93) (.tmp 94) (by rfl) (some 95) (by rfl) W5.heap.size [] b 0 mb rfl (unhide HNB) (some ⟨W5.heap.size, 0, none⟩) bo 0 d (by with_unfolding_all rfl) (by with_unfolding_all rfl) (Own.empty W5 _ (Nat.le_refl _)) (atNew (unhide HB) (unhide HB5) _) (unhide HB).l0 (szNew W5 _) ?_); intro x6 n6 c6 W6 HP6; simp only [Act.put, List.setIfInBounds_toArray, List.set_cons_zero, List.set_cons_succ]; have HB6 : Hid (Below u.heap.size u W6) := Below.step (unhide HB5) ((unhide HP6).below0); have hn6 : mb = n6 := ((unhide HP6).len.trans (unhide HNB).symm).symm; subst hn6; have HN6 : Hid (El W6 b x6 mb c6) := ⟨(unhide HP6).own.at (unhide HB).many, unhide HNB⟩)
                      | (go_at_call_of 20 (Value.slice x6 mb c6); refine (unhide HF2 W6 x6 c6 (unhide HN6)).mono ?_; rintro e W7 ⟨rfl, hb⟩; have HB7 : Hid (Below u.heap.size u W7) := Below.step (unhide HB6) hb; clear hb)
                      | (at_builtin; (with_reducible refine wpList_putE (by rfl) (.tmp 121) (.tmp 122) (by rfl) (some 123) (by rfl) W7.heap.size [] a 0 k rfl (unhide HNA) (some ⟨W7.heap.size, 0, none⟩) ao 0 c (by with_unfolding_all rfl) (by with_unfolding_all rfl) (Own.empty W7 _ (Nat.le_refl _)) (atNew (unhide HA) (unhide HB7) _) (unhide HA).l0 (szNew W7 _) ?_); intro x8 n8 c8 W8 HP8; simp only [Act.put, List.setIfInBounds_toArray, List.set_cons_zero, List.set_cons_succ]; have HB8 : Hid (Below u.heap.size u W8) := Below.step (unhide HB7) ((unhide HP8).below0); have hn8 : k = n8 := ((unhide HP8).len.trans (unhide HNA).symm).symm; subst hn8; have HN8 : Hid (El W8 a x8 k c8) := ⟨(unhide HP8).own.at (unhide HA).many, unhide HNA⟩)
                      | (go_at_call 21; refine (unhide HS1 W8 x8 c8 (unhide HN8)).mono ?_; rintro e W9 ⟨rfl, hb⟩; have HB9 : Hid (Below u.heap.size u W9) := Below.step (unhide HB8) hb; clear hb)
                      | (go_at_call 23; refine (unhide HV1 _ (unhide HB9)).mono ?_; rintro e W10 ⟨rfl, hb⟩; have HB10 : Hid (Below u.heap.size u W10) := Below.step (unhide HB9) hb; clear hb)
                      | (go_at_call 52; refine (unhide HCT _).mono ?_; rintro e W11 ⟨rfl, hb⟩; have HB11 : Hid (Below u.heap.size u W11) := Below.step (unhide HB10) hb; clear hb)
                      | fail)
                    go_ret
                    exact ⟨rfl, unhide HB11⟩
                · rw [Bool.not_eq_true] at hok
                  rw [hok] at HV1
                  obtain ⟨sr, hsr, hsv⟩ : ∃ sr : Int, sr ≠ 0 ∧ sumV p a wd = (eB, sr) := by
                    unfold sumV
                    by_cases hw : widP wd
                    · exact ⟨140, by decide, by rw [if_pos ⟨hpn, hw⟩, if_neg (by rw [hok]; decide)]⟩
                    · exact ⟨1, by decide, by rw [if_neg (fun h => hw h.2)]⟩
                  replace HS1 := hide (unhide HS1 eB sr hsv)
                  have hsb : (sr != 0) = true := by simpa using hsr
                  have hsc : (sr == 0) = false := by simpa using hsr
                  have HCT : Hid True := trivial
                  unfold eB at HS1
                  clear hok hsv
                  go_wp2_with (first
                    | (go_at_call_of 50 (Value.slice ao k c); refine (unhide HL1 _ (unhide HI)).mono ?_; rintro e W2 ⟨rfl, hb⟩; have HB2 : Hid (Below u.heap.size u W2) := Below.step (unhide HI) hb; clear hb)
                    | (go_at_call 50; refine (unhide HL2 _ (unhide HB2)).mono ?_; rintro e W3 ⟨rfl, hb⟩; have HB3 : Hid (Below u.heap.size u W3) := Below.step (unhide HB2) hb; clear hb)
                    | (at_builtin; (with_reducible refine wpList_putE (by rfl) (.tmp 85) (.tmp 86) (by rfl) (some 87) (by rfl) W3.heap.size [] a 0 k rfl (unhide HNA) (some ⟨W3.heap.size, 0, none⟩) ao 0 c (by with_unfolding_all rfl) (by with_unfolding_all rfl) (Own.empty W3 _ (Nat.le_refl _)) (atNew (unhide HA) (unhide HB3) _) (unhide HA).l0 (szNew W3 _) ?_); intro x4 n4 c4 W4 HP4; simp only [Act.put, List.setIfInBounds_toArray, List.set_cons_zero, List.set_cons_succ]; have HB4 : Hid (Below u.heap.size u W4) := Below.step (unhide HB3) ((unhide HP4).below0); have hn4 : k = n4 := ((unhide HP4).len.trans (unhide HNA).symm).symm; subst hn4; have HN4 : Hid (El W4 a x4 k c4) := ⟨(unhide HP4).own.at (unhide HA).many, unhide HNA⟩)
                    | (go_at_call_of 20 (Value.slice x4 k c4); refine (unhide HF1 W4 x4 c4 (unhide HN4)).mono ?_; rintro e W5 ⟨rfl, hb⟩; have HB5 : Hid (Below u.heap.size u W5) := Below.step (unhide HB4) hb; clear hb)
                    | (at_builtin; (with_reducible refine wpList_putE (by rfl) (.tmp 93) (.tmp 94) (by rfl) (some 95) (by rfl) W5.heap.size [] b 0 mb rfl (unhide HNB) (some ⟨W5.heap.size, 0, none⟩) bo 0 d (by with_unfolding_all rfl) (by with_unfolding_all rfl) (Own.empty W5 _ (Nat.le_refl _)) (atNew (unhide HB) (unhide HB5) _) (unhide HB).l0 (szNew W5 _) ?_); intro x6 n6 c6 W6 HP6; simp only [Act.put, List.setIfInBounds_toArray, List.set_cons_zero, List.set_cons_succ]; have HB6 : Hid (Below u.heap.size u W6) := Below.step (unhide HB5) ((unhide HP6).below0); have hn6 : mb = n6 := ((unhide HP6).len.trans (unhide HNB).symm).symm; subst hn6; have HN6 : Hid (El W6 b x6 mb c6) := ⟨(unhide HP6).own.at (unhide HB).many, unhide HNB⟩)
                    | (go_at_call_of 20 (Value.slice x6 mb c6); refine (unhide HF2 W6 x6 c6 (unhide HN6)).mono ?_; rintro e W7 ⟨rfl, hb⟩; have HB7 : Hid (Below u.heap.size u W7) := Below.step (unhide HB6) hb; clear hb)
                    | (at_builtin; (with_reducible refine wpList_putE (by rfl) (.tmp 121) (.tmp 122) (by rfl) (some 123) (by rfl) W7.heap.size [] a 0 k rfl (unhide HNA) (some ⟨W7.heap.size, 0, none⟩) ao 0 c (by with_unfolding_all rfl) (by with_unfolding_all rfl) (Own.empty W7 _ (Nat.le_refl _)) (atNew (unhide HA) (unhide HB7) _) (unhide HA).l0 (szNew W7 _) ?_); intro x8 n8 c8 W8 HP8; simp only [Act.put, List.setIfInBounds_toArray, List.set_cons_zero, List.set_cons_succ]; have HB8 : Hid (Below u.heap.size u W8) := Below.step (unhide HB7) ((unhide HP8).below0); have hn8 : k = n8 := ((unhide HP8).len.trans (unhide HNA).symm).symm; subst hn8; have HN8 : Hid (El W8 a x8 k c8) := ⟨(unhide HP8).own.at (unhide HA).many, unhide HNA⟩)
                    | (go_at_call 21; refine (unhide HS1 W8 x8 c8 (unhide HN8)).mono ?_; rintro e W9 ⟨rfl, hb⟩; have HB9 : Hid (Below u.heap.size u W9) := Below.step (unhide HB8) hb; clear hb)
                    | (go_at_call 23; refine (unhide HV1 _ (unhide HB9)).mono ?_; rintro e W10 ⟨rfl, hb⟩; have HB10 : Hid (Below u.heap.size u W10) := Below.step (unhide HB9) hb; clear hb)
                    | fail
                    | fail)
                  go_ret
                  exact ⟨rfl, unhide HB10⟩
            · rw [Bool.not_eq_true] at hlb
              rw [hla] at HL1
              rw [hlb] at HL2
              clear hla hlb
              go_wp2_with (first
                | (go_at_call_of 50 (Value.slice ao k c); refine (unhide HL1 _ (unhide HI)).mono ?_; rintro e W2 ⟨rfl, hb⟩; have HB2 : Hid (Below u.heap.size u W2) := Below.step (unhide HI) hb; clear hb)
                | (go_at_call 50; refine (unhide HL2 _ (unhide HB2)).mono ?_; rintro e W3 ⟨rfl, hb⟩; have HB3 : Hid (Below u.heap.size u W3) := Below.step (unhide HB2) hb; clear hb)
                | fail)
              go_ret
              exact ⟨rfl, unhide HB3⟩
          · rw [Bool.not_eq_true] at hla
            rw [hla] at HL1
            clear hla
            go_wp2_with (first
              | (go_at_call 50; refine (unhide HL1 _ (unhide HI)).mono ?_; rintro e W2 ⟨rfl, hb⟩; have HB2 : Hid (Below u.heap.size u W2) := Below.step (unhide HI) hb; clear hb)
              | fail)
            go_ret
            exact ⟨rfl, unhide HB2⟩
        · by_cases s1pm : m < 0
          · clear hpm
            go_wp2_with (first
              | fail
              | fail)
            go_ret
            exact ⟨rfl, unhide HI⟩
          · have s2pm : m > 4095 := by
              rcases Int.lt_or_le 4095 m with h | h
              · exact h
              · exact absurd ⟨by omega, by omega⟩ hpm
            clear hpm
            go_wp2_with (first
              | fail
              | fail)
            go_ret
            exact ⟨rfl, unhide HI⟩
      · by_cases s1pn : n < 0
        · clear hpn
          go_wp2_with (first
            | fail
            | fail)
          go_ret
          exact ⟨rfl, unhide HI⟩
        · have s2pn : n > 4095 := by
            rcases Int.lt_or_le 4095 n with h | h
            · exact h
            · exact absurd ⟨by omega, by omega⟩ hpn
          clear hpn
          go_wp2_with (first
            | fail
            | fail)
          go_ret
          exact ⟨rfl, unhide HI⟩
end Go.Proofs.Ytbahlfpcbplofaa.S
