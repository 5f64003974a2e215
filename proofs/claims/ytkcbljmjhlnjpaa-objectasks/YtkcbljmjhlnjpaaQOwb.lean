/- Objects, the document's side: Check, Pack. Written by mkowb.py. -/
import Derived.Test.YtkcbljmjhlnjpaaQOwa
import Derived.Test.YtkcbljmjhlnjpaaQ21
import Derived.Test.YtkcbljmjhlnjpaaQZaw
namespace Go.Proofs.Ytkcbljmjhlnjpaa
open Go.RowKit Go.Lib
theorem kqEnc {G : World} {s : St} {v : Sv} {n m : Nat} (h : Sx G s v n m) {b : ByteArray} {r : Int} (hb : encT s = (b, r)) : Calls Try.prog 71 #[v.v n m] G fun e G' => e = .returned (.tuple #[.string b, .int .i64 r]) ∧ Below G.heap.size G G' := by
  obtain ⟨h1, rfl, rfl⟩ := h
  have := rEncT s v G h1
  rw [hb] at this
  exact this
theorem Sx.few2 {u : World} {s : St} {v : Sv} {n m : Nat} (h : Sx u s v n m) : m ≤ 140737488355328 := by rw [h.em]; exact Nat.le_trans h.sat.sibs.len (by decide)
theorem sok_none {s : St} (h : SOk s) (h0 : s.seen.length = 0) : s.sibs.length = 0 := by
  have h1 : s.seen = [] := List.length_eq_zero_iff.1 h0
  cases hs : s.sibs with
  | nil => rfl
  | cons x l =>
    exfalso
    have h2 := h.cvd x (by rw [hs]; exact List.mem_cons_self ..)
    obtain ⟨h3, h4⟩ := h2
    rw [h1] at h4
    have h5 : V.cnt [] x.a = 0 := rfl
    have h6 : x.c ≤ V.cnt [] x.a := h4
    have h7 : 1 ≤ x.c := h3
    omega
set_option maxRecDepth 100000 in
set_option maxHeartbeats 2000000 in
theorem qCheck {u : World} {o : Ot} {v : Sv} {n m : Nat} (h : Sx u o.st v n m) (r : Int) (hr : ckE o = r) : Calls Try.prog 36 #[obV o.key v n m] u fun e u' => e = .returned (.int .i64 r) ∧ Below u.heap.size u u' := by
  obtain ⟨N, hN⟩ : ∃ N, N = u.heap.size := ⟨_, rfl⟩
  have HN := hide hN
  have HU : Hid (∀ G : World, Below N u G → Sx G o.st v n m) := fun G hG => h.below (by rw [← unhide HN]; exact hG)
  rw [← hN]
  clear hN h
  have HK := hide (qKey o.key)
  by_cases hk : keyE o.key = 0
  · rw [hk] at HK
    by_cases hs : SOk o.st
    · have hb := encT_ok hs
      by_cases hl : (stB o.st).length ≤ 280
      · have h0 : ckE o = 0 := ck_zero.2 ⟨keyE_zero.1 hk, hs, hl⟩
        rw [h0] at hr
        subst hr
        have hl2 : ¬ ((⟨(stB o.st).toArray⟩ : ByteArray).size : Int) > 280 := by rw [size_st]; omega
        generalize (⟨(stB o.st).toArray⟩ : ByteArray) = b at *
        have HE := hide hb
        clear hk hs hb hl h0
        go_enter Try.func36, Try.ntmps36
        go_wp2_with (first
          | ((with_reducible refine wpList_box_ob (by rfl) (.tmp 0) (by rfl) (some 1) (by rfl) N (unhide HN) o.key v n m (by with_unfolding_all rfl) ?_); intro W1 HX1 HB1 HS1; simp only [Act.put, List.setIfInBounds_toArray, List.set_cons_zero, List.set_cons_succ]; have HLX : Hid (Lo W1 N o v n m) := ⟨unhide HU _ (unhide HB1), unhide HX1⟩; obtain ⟨c0, c1, c2⟩ := (unhide HLX).cells)
          | (go_at_call 35; refine (unhide HK _).mono ?_; rintro e W2 ⟨rfl, rfl⟩)
          | (go_at_call 71; refine (kqEnc (unhide HLX).toSx (unhide HE)).mono ?_; rintro e W3 ⟨rfl, hb⟩; replace HB1 : Hid (Below N u W3) := (unhide HB1).trans (hb.mono (by rw [unhide HS1]; omega)); clear hb)
          | fail)
        go_ret
        exact ⟨rfl, unhide HB1⟩
      · have h0 : ckE o = 82 := by unfold ckE; rw [if_pos hk, hb, if_pos rfl, if_neg (by rw [size_st]; exact hl)]
        rw [h0] at hr
        subst hr
        have hl2 : ((⟨(stB o.st).toArray⟩ : ByteArray).size : Int) > 280 := by rw [size_st]; omega
        generalize (⟨(stB o.st).toArray⟩ : ByteArray) = b at *
        have HE := hide hb
        clear hk hs hb hl h0
        go_enter Try.func36, Try.ntmps36
        go_wp2_with (first
          | ((with_reducible refine wpList_box_ob (by rfl) (.tmp 0) (by rfl) (some 1) (by rfl) N (unhide HN) o.key v n m (by with_unfolding_all rfl) ?_); intro W1 HX1 HB1 HS1; simp only [Act.put, List.setIfInBounds_toArray, List.set_cons_zero, List.set_cons_succ]; have HLX : Hid (Lo W1 N o v n m) := ⟨unhide HU _ (unhide HB1), unhide HX1⟩; obtain ⟨c0, c1, c2⟩ := (unhide HLX).cells)
          | (go_at_call 35; refine (unhide HK _).mono ?_; rintro e W2 ⟨rfl, rfl⟩)
          | (go_at_call 71; refine (kqEnc (unhide HLX).toSx (unhide HE)).mono ?_; rintro e W3 ⟨rfl, hb⟩; replace HB1 : Hid (Below N u W3) := (unhide HB1).trans (hb.mono (by rw [unhide HS1]; omega)); clear hb)
          | fail)
        go_ret
        exact ⟨rfl, unhide HB1⟩
    · have hb := encT_no hs
      have h0 : ckE o = 110 := by unfold ckE; rw [if_pos hk, hb]; rfl
      rw [h0] at hr
      subst hr
      have HE := hide hb
      clear hk hs hb h0
      go_enter Try.func36, Try.ntmps36
      go_wp2_with (first
        | ((with_reducible refine wpList_box_ob (by rfl) (.tmp 0) (by rfl) (some 1) (by rfl) N (unhide HN) o.key v n m (by with_unfolding_all rfl) ?_); intro W1 HX1 HB1 HS1; simp only [Act.put, List.setIfInBounds_toArray, List.set_cons_zero, List.set_cons_succ]; have HLX : Hid (Lo W1 N o v n m) := ⟨unhide HU _ (unhide HB1), unhide HX1⟩; obtain ⟨c0, c1, c2⟩ := (unhide HLX).cells)
        | (go_at_call 35; refine (unhide HK _).mono ?_; rintro e W2 ⟨rfl, rfl⟩)
        | (go_at_call 71; refine (kqEnc (unhide HLX).toSx (unhide HE)).mono ?_; rintro e W3 ⟨rfl, hb⟩; replace HB1 : Hid (Below N u W3) := (unhide HB1).trans (hb.mono (by rw [unhide HS1]; omega)); clear hb)
        | fail)
      go_ret
      exact ⟨rfl, unhide HB1⟩
  · have hk2 : keyE o.key = 130 := by
      unfold keyE at hk ⊢
      by_cases h2 : 1 ≤ o.key.size ∧ o.key.size ≤ 32
      · rw [if_pos h2] at hk; exact absurd rfl hk
      · rw [if_neg h2]
    have h0 : ckE o = 130 := by unfold ckE; rw [if_neg hk]; exact hk2
    rw [h0] at hr
    subst hr
    rw [hk2] at HK
    clear hk hk2 h0
    go_enter Try.func36, Try.ntmps36
    go_wp2_with (first
      | ((with_reducible refine wpList_box_ob (by rfl) (.tmp 0) (by rfl) (some 1) (by rfl) N (unhide HN) o.key v n m (by with_unfolding_all rfl) ?_); intro W1 HX1 HB1 HS1; simp only [Act.put, List.setIfInBounds_toArray, List.set_cons_zero, List.set_cons_succ]; have HLX : Hid (Lo W1 N o v n m) := ⟨unhide HU _ (unhide HB1), unhide HX1⟩; obtain ⟨c0, c1, c2⟩ := (unhide HLX).cells)
      | (go_at_call 35; refine (unhide HK _).mono ?_; rintro e W2 ⟨rfl, rfl⟩)
      | fail)
    go_ret
    exact ⟨rfl, unhide HB1⟩
theorem wp_store_ce {o : Oper} {a : Act} {w : World} {K : Act → World → Prop} {Q : Exit → Act → World → Prop} (x y : Operand) (ho : o.op = .store 40 x y) (hd : o.dst = none) (g : Nat) (k z : ByteArray) (hx : a.eval x = .pointer (some ⟨g, 0, none⟩)) (hy : a.eval y = .agg #[.string k, .string z])
    (k0 z0 : ByteArray) (hg : w.heap[g]? = some (ceRow k0 z0)) (h : K a (w.setRow g #[.string k, .string z])) : o.wp Try.prog a w K Q :=
  wp_store_row 40 x y ho g #[.string k, .string z] hx hy 40 _ hg ceInfo rfl (ce_one _ _) (by rw [hd]; exact h)
set_option maxRecDepth 100000 in
set_option maxHeartbeats 4000000 in
theorem qPack {u : World} {o : Ot} {v : Sv} {n m : Nat} (h : Sx u o.st v n m) (x z : ByteArray) (r : Int) (hx : packV o = (x, z, r)) : Calls Try.prog 42 #[obV o.key v n m] u fun e u' => e = .returned (.tuple #[.agg #[.string x, .string z], .int .i64 r]) ∧ Below u.heap.size u u' := by
  have hmix : Try.prog.follows .mixedOrders = true := by kernel_rfl
  obtain ⟨N, hN⟩ : ∃ N, N = u.heap.size := ⟨_, rfl⟩
  have HN := hide hN
  have HU : Hid (∀ G : World, Below N u G → Sx G o.st v n m) := fun G hG => h.below (by rw [← unhide HN]; exact hG)
  have hen := h.en
  have hem := h.em
  have hnf := h.few
  have hmf := h.few2
  rw [← hN]
  clear hN h
  by_cases hc : ckE o = 0
  · obtain ⟨hk, hs, hl⟩ := ck_zero.1 hc
    have HCK : Hid (∀ G : World, Sx G o.st v n m → Calls Try.prog 36 #[obV o.key v n m] G fun e u' => e = .returned (.int .i64 0) ∧ Below G.heap.size G u') := fun G hG => qCheck hG 0 hc
    by_cases h0 : n = 0
    · have hm0 : m = 0 := by rw [hem]; exact sok_none hs (by rw [← hen]; exact h0)
      have hp : packV o = (eB, eB, 110) := by unfold packV; rw [if_pos hc, if_pos (by rw [← hen]; exact h0)]
      rw [hp] at hx
      cases hx
      have HAB : Hid (∀ G : World, Calls Try.prog 73 #[obV o.key v n m] G fun e u' => e = .returned (.bool true) ∧ Below G.heap.size G u') := fun G => by
        have := qAbsent o.key v n m hnf hmf G
        rwa [decide_eq_true h0, decide_eq_true hm0] at this
      clear hc hk hs hl hm0 hp hen hem h0 hnf hmf
      go_enter Try.func42, Try.ntmps42
      go_wp2_with (first
        | ((with_reducible refine wpList_box_ob (by rfl) (.tmp 0) (by rfl) (some 1) (by rfl) N (unhide HN) o.key v n m (by with_unfolding_all rfl) ?_); intro W1 HX1 HB1 HS1; simp only [Act.put, List.setIfInBounds_toArray, List.set_cons_zero, List.set_cons_succ]; skip)
        | ((with_reducible refine wpList_alloc_ce (by rfl) (by rfl) (some 2) (by rfl) (N + 1) (unhide HS1).symm ?_); intro W2 HX2 HB2 HS2; simp only [Act.put, List.setIfInBounds_toArray, List.set_cons_zero, List.set_cons_succ]; have HBU : Hid (Below N u W2) := (unhide HB1).trans ((unhide HB2).mono (Nat.le_succ _)); have HLX : Hid (Lo W2 N o v n m) := ⟨unhide HU _ (unhide HBU), ((unhide HB2).block N (Nat.lt_succ_self _)).trans (unhide HX1)⟩; have HNS : Hid (N + 1 + 1 ≤ W2.heap.size) := (by show N + 1 + 1 ≤ W2.heap.size; rw [unhide HS2]; omega); clear HX1 HB1 HS1 HB2 HS2; obtain ⟨c0, c1, c2⟩ := (unhide HLX).cells)
        | (go_at_call 36; refine (unhide HCK _ (unhide HLX).toSx).mono ?_; rintro e W3 ⟨rfl, hb⟩; clear c0 c1 c2; replace HLX := hide ((unhide HLX).below hb); replace HX2 := hide (box_below (unhide HX2) hb); replace HBU : Hid (Below N u W3) := (unhide HBU).trans (hb.mono (by have := unhide HNS; omega)); replace HNS : Hid (N + 1 + 1 ≤ W3.heap.size) := Nat.le_trans (unhide HNS) hb.size; clear hb; obtain ⟨c0, c1, c2⟩ := (unhide HLX).cells)
        | (go_at_call 73; refine (unhide HAB _).mono ?_; rintro e W4 ⟨rfl, hb⟩; clear c0 c1 c2; replace HLX := hide ((unhide HLX).below hb); replace HX2 := hide (box_below (unhide HX2) hb); replace HBU : Hid (Below N u W4) := (unhide HBU).trans (hb.mono (by have := unhide HNS; omega)); replace HNS : Hid (N + 1 + 1 ≤ W4.heap.size) := Nat.le_trans (unhide HNS) hb.size; clear hb; obtain ⟨c0, c1, c2⟩ := (unhide HLX).cells)
        | ((with_reducible refine wpList_store_ce (by rfl) (.tmp 2) (.tmp 17) (by rfl) (N + 1) ⟨#[]⟩ ⟨#[]⟩ (by with_unfolding_all rfl) (by with_unfolding_all rfl) _ _ (unhide HX2) ?_); intro W7 HX7 HE7; simp only [Act.put])
        | fail)
      refine bodyPost_ret (results_cell_tmp rfl _ _ (N + 1) 40 #[.string ⟨#[]⟩, .string ⟨#[]⟩] (0, 0) _ rfl (unhide HX7) ceUnd rfl ceInfo) rfl ?_
      exact ⟨rfl, by rw [unhide HE7]; exact belowRow (unhide HBU) (by omega) _⟩
    · have HAB : Hid (∀ G : World, Calls Try.prog 73 #[obV o.key v n m] G fun e u' => e = .returned (.bool false) ∧ Below G.heap.size G u') := fun G => by
        have := qAbsent o.key v n m hnf hmf G
        rwa [decide_eq_false h0] at this
      have hp : packV o = (cellK o.key, ⟨(stB o.st).toArray⟩, 0) := by unfold packV; rw [if_pos hc, if_neg (by rw [← hen]; exact h0)]
      rw [hp] at hx
      cases hx
      have HE := hide (encT_ok hs)
      have HPL : Hid (∀ G : World, Calls Try.prog 34 #[.string o.key] G fun e u' => e = .returned (.tuple #[.int .i64 (plN o.key : Int), .int .i64 0]) ∧ Below G.heap.size G u') := fun G => by
        have := qPlace o.key G
        rwa [if_pos (keyE_zero.2 hk), keyE_zero.2 hk] at this
      have hpl : plN o.key < 4096 := plN_lt _
      unfold cellK
      generalize (⟨(stB o.st).toArray⟩ : ByteArray) = b at *
      generalize plN o.key = p at *
      have hw : IntKind.u64.wrap (p : Int) = (p : Int) := by rw [IntKind.wrap_u64]; omega
      have HFX : Hid (∀ G : World, Calls Try.prog 75 #[.int .u64 (p : Int), .int .i64 2] G fun e w' => ∃ y, e = .returned y ∧ y = .string ⟨(W.fixB p 2).toArray⟩ ∧ Below G.heap.size G w') := fun G => asV (W.mwFixed p 2 G (by omega) (by decide))
      have hk1 : o.key.data.toList.length = o.key.size := rfl
      have HCT : Hid (∀ G : World, (Op.stringOp .add ⟨(W.fixB p 2).toArray⟩ o.key).run Try.prog G = .ok (.string ⟨(W.fixB p 2 ++ o.key.data.toList).toArray⟩) G) := fun G => by
        have := catL (W.fixB p 2) o.key.data.toList (by rw [W.fixB_length]; decide) (by omega) G
        rw [Array.toArray_toList] at this
        exact this
      generalize (⟨(W.fixB p 2 ++ o.key.data.toList).toArray⟩ : ByteArray) = C at *
      generalize (⟨(W.fixB p 2).toArray⟩ : ByteArray) = F at *
      clear hc hk hs hl hp hen hem h0 hnf hmf hpl hk1
      go_enter Try.func42, Try.ntmps42
      go_upto_region 8 with (first
        | ((with_reducible refine wpList_box_ob (by rfl) (.tmp 0) (by rfl) (some 1) (by rfl) N (unhide HN) o.key v n m (by with_unfolding_all rfl) ?_); intro W1 HX1 HB1 HS1; simp only [Act.put, List.setIfInBounds_toArray, List.set_cons_zero, List.set_cons_succ]; skip)
        | ((with_reducible refine wpList_alloc_ce (by rfl) (by rfl) (some 2) (by rfl) (N + 1) (unhide HS1).symm ?_); intro W2 HX2 HB2 HS2; simp only [Act.put, List.setIfInBounds_toArray, List.set_cons_zero, List.set_cons_succ]; have HBU : Hid (Below N u W2) := (unhide HB1).trans ((unhide HB2).mono (Nat.le_succ _)); have HLX : Hid (Lo W2 N o v n m) := ⟨unhide HU _ (unhide HBU), ((unhide HB2).block N (Nat.lt_succ_self _)).trans (unhide HX1)⟩; have HNS : Hid (N + 1 + 1 ≤ W2.heap.size) := (by show N + 1 + 1 ≤ W2.heap.size; rw [unhide HS2]; omega); clear HX1 HB1 HS1 HB2 HS2; obtain ⟨c0, c1, c2⟩ := (unhide HLX).cells)
        | (go_at_call 36; refine (unhide HCK _ (unhide HLX).toSx).mono ?_; rintro e W3 ⟨rfl, hb⟩; clear c0 c1 c2; replace HLX := hide ((unhide HLX).below hb); replace HX2 := hide (box_below (unhide HX2) hb); replace HBU : Hid (Below N u W3) := (unhide HBU).trans (hb.mono (by have := unhide HNS; omega)); replace HNS : Hid (N + 1 + 1 ≤ W3.heap.size) := Nat.le_trans (unhide HNS) hb.size; clear hb; obtain ⟨c0, c1, c2⟩ := (unhide HLX).cells)
        | (go_at_call 73; refine (unhide HAB _).mono ?_; rintro e W4 ⟨rfl, hb⟩; clear c0 c1 c2; replace HLX := hide ((unhide HLX).below hb); replace HX2 := hide (box_below (unhide HX2) hb); replace HBU : Hid (Below N u W4) := (unhide HBU).trans (hb.mono (by have := unhide HNS; omega)); replace HNS : Hid (N + 1 + 1 ≤ W4.heap.size) := Nat.le_trans (unhide HNS) hb.size; clear hb; obtain ⟨c0, c1, c2⟩ := (unhide HLX).cells)
        | (go_at_call 34; refine (unhide HPL _).mono ?_; rintro e W5 ⟨rfl, hb⟩; clear c0 c1 c2; replace HLX := hide ((unhide HLX).below hb); replace HX2 := hide (box_below (unhide HX2) hb); replace HBU : Hid (Below N u W5) := (unhide HBU).trans (hb.mono (by have := unhide HNS; omega)); replace HNS : Hid (N + 1 + 1 ≤ W5.heap.size) := Nat.le_trans (unhide HNS) hb.size; clear hb; obtain ⟨c0, c1, c2⟩ := (unhide HLX).cells)
        | (go_at_call 71; refine (kqEnc (unhide HLX).toSx (unhide HE)).mono ?_; rintro e W6 ⟨rfl, hb⟩; clear c0 c1 c2; replace HLX := hide ((unhide HLX).below hb); replace HX2 := hide (box_below (unhide HX2) hb); replace HBU : Hid (Below N u W6) := (unhide HBU).trans (hb.mono (by have := unhide HNS; omega)); replace HNS : Hid (N + 1 + 1 ≤ W6.heap.size) := Nat.le_trans (unhide HNS) hb.size; clear hb; obtain ⟨c0, c1, c2⟩ := (unhide HLX).cells)
        | fail)
      go_wp2_with fail
      refine wp_region_last (fun V => V.heap[N]? = some (obRow o.key v n m)) 9 hmix (box_below (unhide HLX).box (belowDrew (Below.refl _ _))) fun hS => ?_
      have HZ0 : Hid (Below W6.heap.size W6 W6.drew) := belowDrew (Below.refl _ _)
      generalize W6.drew = Z0 at hS HZ0 ⊢
      refine wpAnyL_take 0 30 (.int .i64 (p : Int)) [] rfl rfl (by kernel_rfl) (by kernel_rfl) (by kernel_rfl) (by kernel_rfl) (by kernel_rfl) (fun _ _ _ h => h) (by rfl) (fun _ _ => by go_simp) hS ?_
      simp only [Act.put, List.setIfInBounds_toArray, List.set_cons_zero, List.set_cons_succ]
      refine wpAnyL_take 1 31 (.int .u64 (p : Int)) [] rfl rfl (by kernel_rfl) (by kernel_rfl) (by kernel_rfl) (by kernel_rfl) (by kernel_rfl) (fun _ _ _ h => h) (by rfl) (fun _ _ => by go_simp) hS ?_
      simp only [Act.put, List.setIfInBounds_toArray, List.set_cons_zero, List.set_cons_succ]
      refine wpAnyL_take 3 33 (.pointer (some ⟨N, 0, none⟩)) [] rfl rfl (by kernel_rfl) (by kernel_rfl) (by kernel_rfl) (by kernel_rfl) (by kernel_rfl) (fun _ _ _ h => h) (by rfl) (fun _ _ => by go_simp) hS ?_
      simp only [Act.put, List.setIfInBounds_toArray, List.set_cons_zero, List.set_cons_succ]
      refine wpAnyL_take 4 34 (.string o.key) [] rfl rfl (by kernel_rfl) (by kernel_rfl) (by kernel_rfl) (by kernel_rfl) (by kernel_rfl) (fun _ _ _ h => h) (by rfl) (fun V hV => by obtain ⟨c0, c1, c2⟩ := ob_cells hV; go_simp) hS ?_
      simp only [Act.put, List.setIfInBounds_toArray, List.set_cons_zero, List.set_cons_succ]
      refine wpAnyL_take 6 36 (.string b) [] rfl rfl (by kernel_rfl) (by kernel_rfl) (by kernel_rfl) (by kernel_rfl) (by kernel_rfl) (fun _ _ _ h => h) (by rfl) (fun _ _ => by go_simp) hS ?_
      simp only [Act.put, List.setIfInBounds_toArray, List.set_cons_zero, List.set_cons_succ]
      refine wpAnyL_one (i := 2) (by kernel_rfl) rfl (by rfl) fun K hK => ?_
      refine wp_call_fn 75 _ _ (by rfl) #[.int .u64 (p : Int), .int .i64 2] (by with_unfolding_all rfl) (ent_lit _ (by kernel_rfl)) (some 32) (by rfl) _ (unhide HFX Z0) ?_
      rintro _ Z1 ⟨rfl, hb⟩
      have hS1 : Z1.heap[N]? = some (obRow o.key v n m) := box_below hS hb
      have HZ1 : Hid (Below W6.heap.size W6 Z1) := (unhide HZ0).trans (hb.mono (unhide HZ0).size)
      clear hb hS
      have hS := hS1
      clear hS1
      refine hK _ _ (fun _ => hS) ?_
      clear hK K
      simp only [Act.put, List.setIfInBounds_toArray, List.set_cons_zero, List.set_cons_succ]
      refine wpAnyL_take 5 35 (.string C) [] rfl rfl (by kernel_rfl) (by kernel_rfl) (by kernel_rfl) (by kernel_rfl) (by kernel_rfl) (fun _ _ _ h => h) (by rfl) (fun V _ => by have hc := unhide HCT V; go_simp) hS ?_
      simp only [Act.put, List.setIfInBounds_toArray, List.set_cons_zero, List.set_cons_succ]
      refine wpAnyL_take 7 37 (.agg #[.string C, .string b]) [] rfl rfl (by kernel_rfl) (by kernel_rfl) (by kernel_rfl) (by kernel_rfl) (by kernel_rfl) (fun _ _ _ h => h) (by rfl) (fun _ _ => by go_simp) hS ?_
      simp only [Act.put, List.setIfInBounds_toArray, List.set_cons_zero, List.set_cons_succ]
      refine wpAnyL_one (i := 8) (by kernel_rfl) rfl (by rfl) fun K hK => ?_
      have HX7 : Hid (Z1.heap[N + 1]? = some (ceRow ⟨#[]⟩ ⟨#[]⟩)) := box_below (unhide HX2) (unhide HZ1)
      refine wp_store_ce (.tmp 2) (.tmp 37) (by rfl) (by rfl) (N + 1) C b (by with_unfolding_all rfl) (by with_unfolding_all rfl) _ _ (unhide HX7) ?_
      obtain ⟨Z2, hZ2⟩ : ∃ Z, Z = Z1.setRow (N + 1) #[.string C, .string b] := ⟨_, rfl⟩
      have HX8 : Hid (Z2.heap[N + 1]? = some (ceRow C b)) := by rw [hZ2]; exact heapRow_same (unhide HX7) _
      have HB8 : Hid (Below N u Z2) := by rw [hZ2]; exact belowRow ((unhide HBU).trans ((unhide HZ1).mono (by have := unhide HNS; omega))) (by omega) _
      have hT : Z2.heap[N]? = some (obRow o.key v n m) := by rw [hZ2]; exact (heapRow_other _ _ _ _ (by omega)).trans hS
      rw [← hZ2]
      clear hZ2
      refine hK _ _ (fun _ => hT) ?_
      clear hK K
      refine wpAnyL_one (i := 9) (by kernel_rfl) rfl (by rfl) fun K hK => ?_
      refine wp_val (.int .i64 0) (by go_simp) (some 3) (by rfl) ?_
      refine hK _ _ (fun h => absurd rfl h) ?_
      clear hK K
      simp only [Act.put, List.setIfInBounds_toArray, List.set_cons_zero, List.set_cons_succ]
      refine wpAnyL_done (by kernel_rfl) ?_ _
      go_wp2
      refine bodyPost_ret (results_cell_tmp rfl _ _ (N + 1) 40 #[.string C, .string b] (0, 0) _ rfl (unhide HX8) ceUnd rfl ceInfo) rfl ?_
      exact ⟨rfl, unhide HB8⟩
  · have hp : packV o = (eB, eB, ckE o) := by unfold packV; rw [if_neg hc]
    rw [hp] at hx
    cases hx
    have HCK : Hid (∀ G : World, Sx G o.st v n m → Calls Try.prog 36 #[obV o.key v n m] G fun e u' => e = .returned (.int .i64 (ckE o)) ∧ Below G.heap.size G u') := fun G hG => qCheck hG _ rfl
    generalize ckE o = ce at *
    have hcb : (ce == 0) = false := by simpa using hc
    clear hp hen hem hnf hmf
    go_enter Try.func42, Try.ntmps42
    go_wp2_with (first
      | ((with_reducible refine wpList_box_ob (by rfl) (.tmp 0) (by rfl) (some 1) (by rfl) N (unhide HN) o.key v n m (by with_unfolding_all rfl) ?_); intro W1 HX1 HB1 HS1; simp only [Act.put, List.setIfInBounds_toArray, List.set_cons_zero, List.set_cons_succ]; skip)
      | ((with_reducible refine wpList_alloc_ce (by rfl) (by rfl) (some 2) (by rfl) (N + 1) (unhide HS1).symm ?_); intro W2 HX2 HB2 HS2; simp only [Act.put, List.setIfInBounds_toArray, List.set_cons_zero, List.set_cons_succ]; have HBU : Hid (Below N u W2) := (unhide HB1).trans ((unhide HB2).mono (Nat.le_succ _)); have HLX : Hid (Lo W2 N o v n m) := ⟨unhide HU _ (unhide HBU), ((unhide HB2).block N (Nat.lt_succ_self _)).trans (unhide HX1)⟩; have HNS : Hid (N + 1 + 1 ≤ W2.heap.size) := (by show N + 1 + 1 ≤ W2.heap.size; rw [unhide HS2]; omega); clear HX1 HB1 HS1 HB2 HS2; obtain ⟨c0, c1, c2⟩ := (unhide HLX).cells)
      | (go_at_call 36; refine (unhide HCK _ (unhide HLX).toSx).mono ?_; rintro e W3 ⟨rfl, hb⟩; clear c0 c1 c2; replace HLX := hide ((unhide HLX).below hb); replace HX2 := hide (box_below (unhide HX2) hb); replace HBU : Hid (Below N u W3) := (unhide HBU).trans (hb.mono (by have := unhide HNS; omega)); replace HNS : Hid (N + 1 + 1 ≤ W3.heap.size) := Nat.le_trans (unhide HNS) hb.size; clear hb; obtain ⟨c0, c1, c2⟩ := (unhide HLX).cells)
      | ((with_reducible refine wpList_store_ce (by rfl) (.tmp 2) (.tmp 13) (by rfl) (N + 1) ⟨#[]⟩ ⟨#[]⟩ (by with_unfolding_all rfl) (by with_unfolding_all rfl) _ _ (unhide HX2) ?_); intro W7 HX7 HE7; simp only [Act.put])
      | fail)
    refine bodyPost_ret (results_cell_tmp rfl _ _ (N + 1) 40 #[.string ⟨#[]⟩, .string ⟨#[]⟩] (0, 0) _ rfl (unhide HX7) ceUnd rfl ceInfo) rfl ?_
    exact ⟨rfl, by rw [unhide HE7]; exact belowRow (unhide HBU) (by omega) _⟩
end Go.Proofs.Ytkcbljmjhlnjpaa
