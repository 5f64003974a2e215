/- Segments: lists, homes, the program's form. Written by mksgg.py. -/
import Derived.Test.YtbahlfpcbplofaaSgf
namespace Go.Proofs.Ytbahlfpcbplofaa.S
open Go.RowKit Go.Lib
theorem El.first {w : World} {e : En} {l : List En} {ao : Option Addr} {n c : Nat} (h : El w (e :: l) ao n c) : ∃ g o, ao = some ⟨g, o, none⟩ ∧ w.cell? ⟨g, o, none⟩ = some (.string e.1) ∧ w.cell? ⟨g, o + 1, none⟩ = some (.string e.2) := by
  obtain ⟨g, o, h1, h2, h3⟩ := h.en (i := 0) (Nat.succ_pos _)
  rw [Nat.zero_mul, Nat.add_zero] at h2 h3
  exact ⟨g, o, h1, h2, h3⟩
theorem ixE0 (g o n c : Nat) (hi : 0 < n) (W : World) : (Instr.indexAt 27 (.slice (some ⟨g, o, none⟩) n c) (.int .i64 0)).run Try.prog W = .ok (.pointer (some ⟨g, o, none⟩)) W := by
  have := ixE g o n c 0 hi W
  rwa [Nat.zero_mul, Nat.add_zero] at this
set_option maxRecDepth 100000 in
set_option maxHeartbeats 1000000 in
theorem sIsList (l : List En) (ao : Option Addr) (n c : Nat) (u : World) (h : El u l ao n c) : Calls Try.prog 65 #[.slice ao n c] u fun e u' => e = .returned (.bool (liB l)) ∧ Below u.heap.size u u' := by
  have hn := h.hn
  cases l with
  | nil =>
    rw [show liB [] = true from rfl]
    obtain rfl : n = 0 := hn
    clear h
    go_enter Try.func65, Try.ntmps65
    go_wp2
    go_ret
    exact ⟨rfl, Below.refl _ _⟩
  | cons e l =>
    rw [show liB (e :: l) = okB (e :: l) (e.2.size : Int) from rfl]
    obtain ⟨g, o, hao, c0, c1⟩ := h.first
    subst hao
    have hix := ixE0 g o n c (by rw [hn]; exact Nat.succ_pos _)
    have hV := hide (sValid (e :: l) _ n c (e.2.size : Int) u h)
    have hn0 : ((n : Int) == 0) = false := by rw [hn]; exact beq_false_of_ne (by rw [List.length_cons]; omega)
    have hn1 : ¬ (n : Int) = 0 := by rw [hn, List.length_cons]; omega
    generalize okB (e :: l) (e.2.size : Int) = ok at *
    obtain ⟨ek, es⟩ := e
    have c0 : u.cell? ⟨g, o, none⟩ = some (.string ek) := c0
    have c1 : u.cell? ⟨g, o + 1, none⟩ = some (.string es) := c1
    have hV : Hid (Calls Try.prog 22 #[.slice (some ⟨g, o, none⟩) n c, .int .i64 (es.size : Int)] u fun e u' => e = .returned (.bool ok) ∧ Below u.heap.size u u') := hV
    clear h hn
    go_enter Try.func65, Try.ntmps65
    go_wp2_with (first
      | (go_at_call 22; refine (unhide hV).mono ?_; rintro e W0 ⟨rfl, hb⟩; have HB := hide hb; clear hb)
      | fail)
    go_ret
    exact ⟨rfl, unhide HB⟩
set_option maxRecDepth 100000 in
set_option maxHeartbeats 1000000 in
theorem qList (l : List En) (ao : Option Addr) (n c : Nat) (u : World) (h : El u l ao n c) : Calls Try.prog 50 #[.slice ao n c] u fun e u' => e = .returned (.bool (liB l)) ∧ Below u.heap.size u u' := by
  have hn := h.hn
  cases l with
  | nil =>
    rw [show liB [] = true from rfl]
    obtain rfl : n = 0 := hn
    clear h
    go_enter Try.func50, Try.ntmps50
    go_wp2
    go_ret
    exact ⟨rfl, Below.refl _ _⟩
  | cons e l =>
    rw [show liB (e :: l) = okB (e :: l) (e.2.size : Int) from rfl]
    obtain ⟨g, o, hao, c0, c1⟩ := h.first
    subst hao
    have hix := ixE0 g o n c (by rw [hn]; exact Nat.succ_pos _)
    have hV := hide (qValid (e :: l) _ n c (e.2.size : Int) u h)
    have hn0 : ((n : Int) == 0) = false := by rw [hn]; exact beq_false_of_ne (by rw [List.length_cons]; omega)
    have hn1 : ¬ (n : Int) = 0 := by rw [hn, List.length_cons]; omega
    generalize okB (e :: l) (e.2.size : Int) = ok at *
    obtain ⟨ek, es⟩ := e
    have c0 : u.cell? ⟨g, o, none⟩ = some (.string ek) := c0
    have c1 : u.cell? ⟨g, o + 1, none⟩ = some (.string es) := c1
    have hV : Hid (Calls Try.prog 23 #[.slice (some ⟨g, o, none⟩) n c, .int .i64 (es.size : Int)] u fun e u' => e = .returned (.bool ok) ∧ Below u.heap.size u u') := hV
    clear h hn
    go_enter Try.func50, Try.ntmps50
    go_wp2_with (first
      | (go_at_call 23; refine (unhide hV).mono ?_; rintro e W0 ⟨rfl, hb⟩; have HB := hide hb; clear hb)
      | fail)
    go_ret
    exact ⟨rfl, unhide HB⟩
set_option maxRecDepth 100000 in
set_option maxHeartbeats 2000000 in
theorem sHome (x : Int) (l : List En) (ao : Option Addr) (n c : Nat) (u : World) (h : El u l ao n c) : Calls Try.prog 24 #[.int .i64 x, .slice ao n c] u fun e u' => e = .returned (.bool (homeB x l)) ∧ Below u.heap.size u u' := by
  have HQ := hide h
  have hnf := h.few
  have HLN := hide h.hn
  have HE : Hid (∀ i (hi : i < l.length), ofI l[i].1 ≠ x → homeB x l = false) := fun i hi hg => by
    unfold homeB
    rw [List.all_eq_false]
    exact ⟨l[i], List.getElem_mem hi, by simpa using hg⟩
  have HT : Hid ((∀ i (hi : i < l.length), ofI l[i].1 = x) → homeB x l = true) := fun hg => by
    unfold homeB
    rw [List.all_eq_true]
    intro y hy
    obtain ⟨i, hi, rfl⟩ := List.mem_iff_getElem.1 hy
    exact decide_eq_true (hg i hi)
  generalize homeB x l = ok at *
  have hni : (n : Int) ≤ 4398046511000 := by omega
  clear h hnf
  go_enter Try.func24, Try.ntmps24
  go_wp2
  go_loopw [9] (fun i wr => ∃ k : Nat, k ≤ n ∧ i = .int .i64 k ∧ Hid (Below u.heap.size u wr ∧ ∀ j (hj : j < l.length), j < k → ofI l[j].1 = x)) (fun i _ => n - (intOf i).toNat)
  case atStart => exact ⟨0, Nat.zero_le _, rfl, Below.refl _ _, fun j _ hj => absurd hj (Nat.not_lt_zero _)⟩
  case round =>
    obtain ⟨k, hk, rfl, HI⟩ := hrel
    by_cases hlt : k < n
    · have hki : (k : Int) < (n : Int) := by omega
      have hkl : k < l.length := by rw [← unhide HLN]; exact hlt
      have HBR := hide (unhide HI).1
      obtain ⟨g, o, hao, c1, c2⟩ := ((unhide HQ).below (unhide HBR)).en hkl
      subst hao
      have hix := ixE g o n c k hlt
      obtain ⟨M, hM⟩ : ∃ M, M = wr.heap.size := ⟨_, rfl⟩
      have HM := hide hM
      have HBN : Hid (∀ W : World, Below M wr W → Below u.heap.size u W) := fun W hW => (unhide HBR).trans (hW.mono (by rw [hM]; exact (unhide HBR).size))
      clear hM
      have HR : Hid (ofI l[k].1 = x → ∀ j (hj : j < l.length), j < k + 1 → ofI l[j].1 = x) := fun hg j hj hjk => by
        rcases Nat.lt_succ_iff_lt_or_eq.1 hjk with h | rfl
        · exact (unhide HI).2 j hj h
        · exact hg
      have HE1 := hide (unhide HE k hkl)
      generalize l[k] = q at *
      obtain ⟨qk, qs⟩ := q
      have c1 : wr.cell? ⟨g, o + k * 2, none⟩ = some (.string qk) := c1
      have c2 : wr.cell? ⟨g, o + k * 2 + 1, none⟩ = some (.string qs) := c2
      have HR : Hid (ofI qk = x → ∀ j (hj : j < l.length), j < k + 1 → ofI l[j].1 = x) := HR
      have HE1 : Hid (ofI qk ≠ x → ok = false) := HE1
      have HKY := hide (sOf qk)
      clear HI HE
      generalize o + k * 2 = oo at *
      generalize ofI qk = p at *
      by_cases hp : p = x
      · have hp1 : (p != x) = false := by rw [hp]; simp
        have HP := hide hp
        go_wp2_with (first
              | ((with_reducible refine wpList_alloc_en (by rfl) (by rfl) (some 6) (by rfl) M (unhide HM) ?_); intro W1 HX1 HB1 HS1; simp only [Act.put, List.setIfInBounds_toArray, List.set_cons_zero, List.set_cons_succ])
              | ((with_reducible refine wpList_store_en (by rfl) (.tmp 6) (.tmp 12) (by rfl) M qk qs (by with_unfolding_all rfl) (by with_unfolding_all rfl) _ _ (unhide HX1) ?_); intro W2 HX2 HE2; simp only [Act.put]; obtain ⟨y0, y1⟩ := en_cells (unhide HX2); have HB2 : Hid (Below u.heap.size u W2) := (by rw [unhide HE2]; exact unhide HBN _ (belowRow (unhide HB1) (Nat.le_refl _) _)))
              | (go_at_call 15; refine (unhide HKY W2).mono ?_; rintro e W3 ⟨rfl, hb⟩; have HB3 : Hid (Below u.heap.size u W3) := (unhide HB2).trans (hb.mono (unhide HB2).size); clear hb)
              | fail)
        go_wp2
        go_roundw
        case rel => exact ⟨k + 1, by omega, by go_num, unhide HB3, unhide HR (unhide HP)⟩
        case measure => simp [intOf]; omega
      · have hp1 : (p != x) = true := by simpa using hp
        have HP := hide (unhide HE1 hp)
        go_wp2_with (first
              | ((with_reducible refine wpList_alloc_en (by rfl) (by rfl) (some 6) (by rfl) M (unhide HM) ?_); intro W1 HX1 HB1 HS1; simp only [Act.put, List.setIfInBounds_toArray, List.set_cons_zero, List.set_cons_succ])
              | ((with_reducible refine wpList_store_en (by rfl) (.tmp 6) (.tmp 12) (by rfl) M qk qs (by with_unfolding_all rfl) (by with_unfolding_all rfl) _ _ (unhide HX1) ?_); intro W2 HX2 HE2; simp only [Act.put]; obtain ⟨y0, y1⟩ := en_cells (unhide HX2); have HB2 : Hid (Below u.heap.size u W2) := (by rw [unhide HE2]; exact unhide HBN _ (belowRow (unhide HB1) (Nat.le_refl _) _)))
              | (go_at_call 15; refine (unhide HKY W2).mono ?_; rintro e W3 ⟨rfl, hb⟩; have HB3 : Hid (Below u.heap.size u W3) := (unhide HB2).trans (hb.mono (unhide HB2).size); clear hb)
              | fail)
        go_ret
        exact ⟨by rw [unhide HP]; rfl, unhide HB3⟩
    · obtain rfl : k = n := by omega
      have hki : ¬ (k : Int) < (k : Int) := by omega
      go_wp2
      go_ret
      refine ⟨?_, (unhide HI).1⟩
      rw [unhide HT fun i hi => (unhide HI).2 i hi (by rw [unhide HLN]; exact hi)]
      rfl
set_option maxRecDepth 100000 in
set_option maxHeartbeats 2000000 in
theorem qHome (x : Int) (l : List En) (ao : Option Addr) (n c : Nat) (u : World) (h : El u l ao n c) : Calls Try.prog 25 #[.int .i64 x, .slice ao n c] u fun e u' => e = .returned (.bool (homeB x l)) ∧ Below u.heap.size u u' := by
  have HQ := hide h
  have hnf := h.few
  have HLN := hide h.hn
  have HE : Hid (∀ i (hi : i < l.length), ofI l[i].1 ≠ x → homeB x l = false) := fun i hi hg => by
    unfold homeB
    rw [List.all_eq_false]
    exact ⟨l[i], List.getElem_mem hi, by simpa using hg⟩
  have HT : Hid ((∀ i (hi : i < l.length), ofI l[i].1 = x) → homeB x l = true) := fun hg => by
    unfold homeB
    rw [List.all_eq_true]
    intro y hy
    obtain ⟨i, hi, rfl⟩ := List.mem_iff_getElem.1 hy
    exact decide_eq_true (hg i hi)
  generalize homeB x l = ok at *
  have hni : (n : Int) ≤ 4398046511000 := by omega
  clear h hnf
  go_enter Try.func25, Try.ntmps25
  go_wp2
  go_loopw [5] (fun i wr => ∃ k : Nat, k ≤ n ∧ i = .int .i64 k ∧ Hid (Below u.heap.size u wr ∧ ∀ j (hj : j < l.length), j < k → ofI l[j].1 = x)) (fun i _ => n - (intOf i).toNat)
  case atStart => exact ⟨0, Nat.zero_le _, rfl, Below.refl _ _, fun j _ hj => absurd hj (Nat.not_lt_zero _)⟩
  case round =>
    obtain ⟨k, hk, rfl, HI⟩ := hrel
    by_cases hlt : k < n
    · have hki : (k : Int) < (n : Int) := by omega
      have hkl : k < l.length := by rw [← unhide HLN]; exact hlt
      have HBR := hide (unhide HI).1
      obtain ⟨g, o, hao, c1, c2⟩ := ((unhide HQ).below (unhide HBR)).en hkl
      subst hao
      have hix := ixE g o n c k hlt
      obtain ⟨M, hM⟩ : ∃ M, M = wr.heap.size := ⟨_, rfl⟩
      have HM := hide hM
      have HBN : Hid (∀ W : World, Below M wr W → Below u.heap.size u W) := fun W hW => (unhide HBR).trans (hW.mono (by rw [hM]; exact (unhide HBR).size))
      clear hM
      have HR : Hid (ofI l[k].1 = x → ∀ j (hj : j < l.length), j < k + 1 → ofI l[j].1 = x) := fun hg j hj hjk => by
        rcases Nat.lt_succ_iff_lt_or_eq.1 hjk with h | rfl
        · exact (unhide HI).2 j hj h
        · exact hg
      have HE1 := hide (unhide HE k hkl)
      generalize l[k] = q at *
      obtain ⟨qk, qs⟩ := q
      have c1 : wr.cell? ⟨g, o + k * 2, none⟩ = some (.string qk) := c1
      have c2 : wr.cell? ⟨g, o + k * 2 + 1, none⟩ = some (.string qs) := c2
      have HR : Hid (ofI qk = x → ∀ j (hj : j < l.length), j < k + 1 → ofI l[j].1 = x) := HR
      have HE1 : Hid (ofI qk ≠ x → ok = false) := HE1
      have HKY := hide (qOf qk)
      clear HI HE
      generalize o + k * 2 = oo at *
      generalize ofI qk = p at *
      by_cases hp : p = x
      · have hp1 : (p != x) = false := by rw [hp]; simp
        have HP := hide hp
        go_wp2_with (first
              | (go_at_call 16; refine (unhide HKY wr).mono ?_; rintro e W3 ⟨rfl, hb⟩; have HB3 : Hid (Below u.heap.size u W3) := (unhide HBR).trans (hb.mono (unhide HBR).size); clear hb)
              | fail)
        go_wp2
        go_roundw
        case rel => exact ⟨k + 1, by omega, by go_num, unhide HB3, unhide HR (unhide HP)⟩
        case measure => simp [intOf]; omega
      · have hp1 : (p != x) = true := by simpa using hp
        have HP := hide (unhide HE1 hp)
        go_wp2_with (first
              | (go_at_call 16; refine (unhide HKY wr).mono ?_; rintro e W3 ⟨rfl, hb⟩; have HB3 : Hid (Below u.heap.size u W3) := (unhide HBR).trans (hb.mono (unhide HBR).size); clear hb)
              | fail)
        go_ret
        exact ⟨by rw [unhide HP]; rfl, unhide HB3⟩
    · obtain rfl : k = n := by omega
      have hki : ¬ (k : Int) < (k : Int) := by omega
      go_wp2
      go_ret
      refine ⟨?_, (unhide HI).1⟩
      rw [unhide HT fun i hi => (unhide HI).2 i hi (by rw [unhide HLN]; exact hi)]
      rfl
/-- keys and sums that are short -/
def Short (l : List En) : Prop := ∀ e ∈ l, e.1.size ≤ 32 ∧ e.2.size ≤ 32
theorem uintB_len (v : Nat) : (W.uintB 9 v).length ≤ 10 := (W.uintB_length 9 v).2
theorem ensB_len : ∀ (l : List En), Short l → (ensB l).length ≤ l.length * 84
  | [], _ => by simp [ensB]
  | e :: l, h => by
    have h1 := ensB_len l fun x hx => h x (List.mem_cons_of_mem _ hx)
    have h2 := h e List.mem_cons_self
    have e1 : ensB (e :: l) = enB e ++ ensB l := by simp [ensB]
    have e2 : (enB e).length ≤ 84 := by
      unfold enB textB
      have h3 := uintB_len e.1.size
      have h4 := uintB_len e.2.size
      have h5 : e.1.data.toList.length = e.1.size := rfl
      have h6 : e.2.data.toList.length = e.2.size := rfl
      simp only [List.length_append, h5, h6]
      omega
    rw [e1, List.length_append, List.length_cons]
    omega
theorem Short.take {l : List En} (h : Short l) (k : Nat) : Short (l.take k) := fun e he => h e (List.mem_of_mem_take he)
theorem okShort {l : List En} {wd : Int} (h : Ok l wd) : Short l := fun e he => by
  obtain ⟨i, hi, rfl⟩ := List.mem_iff_getElem.1 he
  have h1 := (keyE_zero.1 (h.2 i hi).1).2
  have h2 := (h.2 i hi).2.1
  have h3 := h.1.2
  exact ⟨h1, by omega⟩
theorem liShort {l : List En} (h : liB l = true) : Short l := by
  cases l with
  | nil => exact fun e he => absurd he (by simp)
  | cons e l => exact okShort (okB_true.1 h)
set_option maxRecDepth 100000 in
set_option maxHeartbeats 4000000 in
theorem sForm0 (x : Nat) (hx : x < 4096) (l : List En) (ao : Option Addr) (n c : Nat) (u : World) (h : El u l ao n c) (hs : Short l) (hm : n ≤ 1099511627776) : Calls Try.prog 66 #[.int .i64 x, .slice ao n c] u fun e u' => e = .returned (.string (formB x l)) ∧ Below u.heap.size u u' := by
  have HQ := hide h
  have HS := hide hs
  have HLN := hide h.hn
  have HNW : Hid (∀ X, Calls Try.prog 56 #[] X fun e X' => ∃ a r, e = .returned (.pointer (some ⟨a, 0, none⟩)) ∧ Wn X X' X.heap.size a r []) := wnNew
  have hni : (n : Int) ≤ 1099511627776 := by omega
  obtain ⟨P, hP⟩ : ∃ P, P = [83] ++ W.fixB x 2 ++ W.uintB 9 n := ⟨_, rfl⟩
  have HPL : Hid (P.length ≤ 13) := by
    rw [hP]
    have := uintB_len n
    simp only [List.length_append, W.fixB_length, List.length_singleton]
    show 1 + 2 + (W.uintB 9 n).length ≤ 13
    omega
  have HPF : Hid (formB x l = ⟨(P ++ ensB l).toArray⟩) := by
    rw [hP]
    unfold formB formL
    rw [← h.hn]
    show (⟨_⟩ : ByteArray) = ⟨_⟩
    simp [List.append_assoc]
  have HP := hide hP
  have HTK : Hid (∀ k (hk : k < l.length), ensB (l.take (k + 1)) = ensB (l.take k) ++ (textB l[k].1 ++ textB l[k].2)) := fun k hk => ensB_take l hk
  have HLEN : Hid (∀ k, (ensB (l.take k)).length ≤ 92358976733184) := fun k => by
    have h1 := ensB_len _ (hs.take k)
    have h2 : (l.take k).length ≤ l.length := by rw [List.length_take]; omega
    have h3 := unhide HLN
    omega
  clear h hs hm hP
  go_enter Try.func66, Try.ntmps66
  go_wp2_with (first
    | (go_at_call 56; refine (unhide HNW u).mono ?_; rintro e W1 ⟨a, r, rfl, hw⟩; have H1 := hide hw; clear hw)
    | (go_at_call 90; refine (wnByte (unhide H1)).mono ?_; rintro e W2 ⟨rfl, r2, hw⟩; have H2 := hide hw; clear hw H1)
    | (go_at_call 57; refine (wnNumber (unhide H2) x hx (by decide)).mono ?_; rintro e W3 ⟨rfl, r3, hw⟩; have H3 := hide hw; clear hw H2)
    | (go_at_call 91; refine (wnUint (unhide H3) (n : Int) (by omega) (by omega) (by rw [List.length_append, W.fixB_length]; decide)).mono ?_; rintro e W4 ⟨rfl, r4, hw⟩; have H4 : Hid (Wn u W4 u.heap.size a r4 (P ++ ensB (l.take 0))) := (by rw [unhide HP, List.take_zero, show ensB [] = [] from rfl, List.append_nil]; rw [Int.toNat_natCast] at hw; exact hw); clear hw H3)
    | fail)
  go_loopw [21] (fun i wr => ∃ (k r5 : Nat), k ≤ n ∧ i = .int .i64 k ∧ Hid (Wn u wr u.heap.size a r5 (P ++ ensB (l.take k)))) (fun i _ => n - (intOf i).toNat)
  case atStart => exact ⟨0, r4, Nat.zero_le _, rfl, unhide H4⟩
  case round =>
    clear H4
    obtain ⟨k, r5, hk, rfl, HI⟩ := hrel
    by_cases hlt : k < n
    · have hki : (k : Int) < (n : Int) := by omega
      have hkl : k < l.length := by rw [← unhide HLN]; exact hlt
      obtain ⟨g, o, hao, c1, c2⟩ := ((unhide HQ).below (unhide HI).below).en hkl
      subst hao
      have hix := ixE g o n c k hlt
      obtain ⟨M, hM⟩ : ∃ M, M = wr.heap.size := ⟨_, rfl⟩
      have HM := hide hM
      clear hM
      have HTQ := hide (unhide HTK k hkl)
      have HSQ := hide (unhide HS _ (List.getElem_mem hkl))
      have hbl : (P ++ ensB (l.take k)).length ≤ 100000000000000 := by
        rw [List.length_append]; have := unhide HLEN k; have := unhide HPL; omega
      generalize l[k] = q at *
      obtain ⟨qk, qs⟩ := q
      have c1 : wr.cell? ⟨g, o + k * 2, none⟩ = some (.string qk) := c1
      have c2 : wr.cell? ⟨g, o + k * 2 + 1, none⟩ = some (.string qs) := c2
      have HTQ : Hid (ensB (l.take (k + 1)) = ensB (l.take k) ++ (textB qk ++ textB qs)) := HTQ
      have hq1 : qk.size ≤ 32 := (unhide HSQ).1
      have hq2 : qs.size ≤ 32 := (unhide HSQ).2
      generalize o + k * 2 = oo at *
      have HBL := hide hbl
      have hl2 : (P ++ ensB (l.take k) ++ textB qk).length ≤ 140737488000000 := by
        have h1 : (textB qk).length ≤ 42 := by
          unfold textB
          have h3 := uintB_len qk.size
          have h5 : qk.data.toList.length = qk.size := rfl
          rw [List.length_append, h5]; omega
        rw [List.length_append]; omega
      have HL2 := hide hl2
      have HBS : Hid (P ++ ensB (l.take k) ++ textB qk ++ textB qs = P ++ ensB (l.take (k + 1))) := by rw [unhide HTQ]; simp only [List.append_assoc]; exact trivial
      generalize P ++ ensB (l.take k) = bs at *
      clear hbl HTQ HSQ hl2
      go_wp2_with (first
        | ((with_reducible refine wpList_alloc_en (by rfl) (by rfl) (some 7) (by rfl) M (unhide HM) ?_); intro W5 HX5 HB5 HS5; simp only [Act.put, List.setIfInBounds_toArray, List.set_cons_zero, List.set_cons_succ])
        | ((with_reducible refine wpList_store_en (by rfl) (.tmp 7) (.tmp 24) (by rfl) M qk qs (by with_unfolding_all rfl) (by with_unfolding_all rfl) _ _ (unhide HX5) ?_); intro W6 HX6 HE6; simp only [Act.put]; obtain ⟨y0, y1⟩ := en_cells (unhide HX6); have H6 : Hid (Wn u W6 u.heap.size a r5 bs) := (unhide HI).belw (by rw [unhide HE6, ← unhide HM]; exact belowRow (unhide HB5) (Nat.le_refl _) _); have HOK : Hid (M ≠ a ∧ M ≠ r5) := ⟨(by rw [unhide HM]; exact fun e => absurd (unhide HI).wr.1 (by rw [e]; exact Nat.lt_irrefl _)), (by rw [unhide HM]; exact fun e => absurd (unhide HI).wr.2.1 (by rw [e]; exact Nat.lt_irrefl _))⟩; clear HB5 HS5 HE6 HX5)
        | (go_at_call_of 92 (Value.string qk); refine (W.wText a r5 bs qk W6 (unhide H6).wr (by have := unhide HBL; omega)).mono ?_; rintro e W7 ⟨rfl, r7, hp⟩; have H7 : Hid (Wn u W7 u.heap.size a r7 (bs ++ textB qk)) := (unhide H6).put hp; have HX7 : Hid (W7.heap[M]? = some (enRow qk qs)) := (hp.2.2.block M (Array.getElem?_eq_some_iff.1 (unhide HX6)).1 (unhide HOK).1 (unhide HOK).2).trans (unhide HX6); clear hp y0 y1; obtain ⟨z0, z1⟩ := en_cells (unhide HX7))
        | (go_at_call 92; refine (wnText (unhide H7) qs (unhide HL2) (by omega)).mono ?_; rintro e W8 ⟨rfl, r8, hw⟩; have H8 := hide hw; clear hw)
        | fail)
      go_wp2
      go_roundw
      case rel => exact ⟨k + 1, r8, by omega, by go_num, by rw [← unhide HBS]; exact unhide H8⟩
      case measure => simp [intOf]; omega
    · obtain rfl : k = n := by omega
      have hki : ¬ (k : Int) < (k : Int) := by omega
      have HTL : Hid (l.take k = l) := List.take_of_length_le (by rw [unhide HLN]; exact Nat.le_refl _)
      go_wp2_with (first
        | (go_at_call 58; refine (wnTold (unhide HI)).mono ?_; rintro e W3 ⟨rfl, rfl⟩)
        | fail)
      go_ret
      refine ⟨?_, (unhide HI).below⟩
      rw [unhide HTL, unhide HPF]
      rfl
end Go.Proofs.Ytbahlfpcbplofaa.S
