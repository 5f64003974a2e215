/- Put together out of Oe, Og. -/
import Derived.Test.YtkcbljmjhlnjpaaQ19
namespace Go.Proofs.Ytkcbljmjhlnjpaa
open Go.RowKit Go.Lib
theorem wnNew (X : World) : Calls Try.prog 58 #[] X fun e X' => ∃ a r, e = .returned (.pointer (some ⟨a, 0, none⟩)) ∧ Wn X X' X.heap.size a r [] := (W.wNew X).mono fun e X' hh => by
  obtain ⟨h1, h2⟩ := hh
  exact ⟨_, _, h1, by rw [h2]; exact Wn.new X 129⟩
section
variable {u w : World} {B a r : Nat} {bs : List UInt8}
theorem wnByte (h : Wn u w B a r []) : Calls Try.prog 101 #[.pointer (some ⟨a, 0, none⟩), .int .u8 79] w fun e w' => e = .returned (.tuple #[]) ∧ ∃ r', Wn u w' B a r' [79] :=
  (W.wByte a r [] 79 w h.wr (by decide) (by decide) (by decide)).mono fun e w' ⟨h1, r', hp⟩ => ⟨h1, r', h.put hp⟩
theorem wnText (h : Wn u w B a r bs) (s : ByteArray) (hl : bs.length ≤ 1000) (hs : s.size ≤ 1000) : Calls Try.prog 102 #[.pointer (some ⟨a, 0, none⟩), .string s] w fun e w' => e = .returned (.tuple #[]) ∧ ∃ r', Wn u w' B a r' (bs ++ textB s) :=
  (W.wText a r bs s w h.wr (by omega)).mono fun e w' ⟨h1, r', hp⟩ => ⟨h1, r', h.put hp⟩
theorem wnRaw (h : Wn u w B a r bs) (s : ByteArray) (hl : bs.length ≤ 1000) (hs : s.size ≤ 1000) : Calls Try.prog 60 #[.pointer (some ⟨a, 0, none⟩), .string s] w fun e w' => e = .returned (.tuple #[]) ∧ ∃ r', Wn u w' B a r' (bs ++ s.data.toList) :=
  (W.wRaw a r bs s w h.wr (by omega)).mono fun e w' ⟨h1, r', hp⟩ => ⟨h1, r', h.put hp⟩
theorem wnFixed (h : Wn u w B a r []) (p : Nat) (hp : p < 65536) : Calls Try.prog 59 #[.pointer (some ⟨a, 0, none⟩), .int .u64 p, .int .i64 2] w fun e w' => e = .returned (.int .i64 0) ∧ ∃ r', Wn u w' B a r' (W.fixB p 2) :=
  (W.wFixed a r [] p 2 w h.wr (by decide) (by decide) (by simpa using hp) (by decide)).mono fun e w' ⟨h1, r', hp⟩ => ⟨h1, r', h.put hp⟩
theorem wnTold (h : Wn u w B a r bs) : Calls Try.prog 61 #[.pointer (some ⟨a, 0, none⟩)] w fun e w' => e = .returned (.string ⟨bs.toArray⟩) ∧ w' = w := W.wTold a r bs w h.wr
end
theorem Sx.few {u : World} {s : St} {v : Sv} {n m : Nat} (h : Sx u s v n m) : n ≤ 140737488355328 := by rw [h.en]; exact h.sat.seen.at.len
set_option maxRecDepth 100000 in
set_option maxHeartbeats 2000000 in
theorem oForm0 {u : World} {o : Ot} {v : Sv} {n m : Nat} (h : Sx u o.st v n m) (hk : o.key.size ≤ 32) (hb : (stB o.st).length ≤ 280) : Calls Try.prog 66 #[obV o.key v n m, .string ⟨(stB o.st).toArray⟩] u fun e u' => e = .returned (.string (formB o)) ∧ Below u.heap.size u u' := by
  obtain ⟨N, hN⟩ : ∃ N, N = u.heap.size := ⟨_, rfl⟩
  have HN := hide hN
  have HU : Hid (∀ W : World, Below N u W → Below u.heap.size u W) := fun W hW => by rw [← unhide HN]; exact hW
  rw [← hN]
  clear hN
  have HAB := hide (oAbsent o.key v n m h.few)
  have hsz := size_st o.st
  by_cases h0 : n = 0
  · rw [show formB o = ⟨#[]⟩ by unfold formB; rw [if_pos (by rw [← h.en]; exact h0)]; rfl]
    rw [decide_eq_true h0] at HAB
    generalize (⟨(stB o.st).toArray⟩ : ByteArray) = b at *
    clear h0 h hsz hk hb
    go_enter Try.func66, Try.ntmps66
    go_wp2_with (first
      | ((with_reducible refine wpList_box_ob (by rfl) (.tmp 0) (by rfl) (some 2) (by rfl) N (unhide HN) o.key v n m (by with_unfolding_all rfl) ?_); intro W1 HX1 HB1 HS1; simp only [Act.put, List.setIfInBounds_toArray, List.set_cons_zero, List.set_cons_succ]; obtain ⟨c0, c1, c2⟩ := ob_cells (unhide HX1))
      | (go_at_call 57; refine (unhide HAB W1).mono ?_; rintro e W2 ⟨rfl, hb⟩; have HB2 := hide hb; clear hb)
      | fail)
    go_ret
    exact ⟨rfl, (unhide HB1).trans ((unhide HB2).mono (by rw [unhide HS1]; omega))⟩
  · have e : formB o = ⟨(([79] ++ textB o.key) ++ (⟨(stB o.st).toArray⟩ : ByteArray).data.toList).toArray⟩ := by unfold formB; rw [if_neg (by rw [← h.en]; exact h0)]; simp
    rw [e]
    rw [decide_eq_false h0] at HAB
    have HL : Hid (([79] ++ textB o.key).length ≤ 1000) := by
      have h1 := (uintB_len 9 o.key.size).2
      have h2 : o.key.data.toList.length = o.key.size := rfl
      show ([79] ++ textB o.key).length ≤ 1000
      unfold textB
      simp only [List.length_append, List.length_cons, List.length_nil, h2]
      omega
    have HKS : Hid (o.key.size ≤ 1000) := by show o.key.size ≤ 1000; omega
    have HBS : Hid ((⟨(stB o.st).toArray⟩ : ByteArray).size ≤ 1000) := by show (⟨(stB o.st).toArray⟩ : ByteArray).size ≤ 1000; omega
    generalize (⟨(stB o.st).toArray⟩ : ByteArray) = b at *
    clear h0 h hsz hk hb e
    go_enter Try.func66, Try.ntmps66
    go_wp2_with (first
      | ((with_reducible refine wpList_box_ob (by rfl) (.tmp 0) (by rfl) (some 2) (by rfl) N (unhide HN) o.key v n m (by with_unfolding_all rfl) ?_); intro W1 HX1 HB1 HS1; simp only [Act.put, List.setIfInBounds_toArray, List.set_cons_zero, List.set_cons_succ]; obtain ⟨c0, c1, c2⟩ := ob_cells (unhide HX1))
      | (go_at_call 57; refine (unhide HAB W1).mono ?_; rintro e W2 ⟨rfl, hb⟩; have HB2 := hide hb; replace HX1 := hide (box_below (unhide HX1) hb); clear hb c0 c1 c2)
      | (go_at_call 58; refine (wnNew W2).mono ?_; rintro e W3 ⟨a, r3, rfl, hw⟩; have HW := hide hw; clear hw)
      | (go_at_call 101; refine (wnByte (unhide HW)).mono ?_; rintro e W4 ⟨rfl, r4, hw⟩; clear HW; have HW := hide hw; obtain ⟨c0, c1, c2⟩ := ob_cells (box_below (unhide HX1) hw.below); clear hw)
      | (go_at_call 102; refine (wnText (unhide HW) o.key (by decide) (unhide HKS)).mono ?_; rintro e W5 ⟨rfl, r5, hw⟩; clear HW c0 c1 c2; have HW := hide hw; clear hw)
      | (go_at_call 60; refine (wnRaw (unhide HW) b (unhide HL) (unhide HBS)).mono ?_; rintro e W6 ⟨rfl, r6, hw⟩; clear HW; have HW := hide hw; clear hw)
      | (go_at_call 61; refine (wnTold (unhide HW)).mono ?_; rintro e W7 ⟨rfl, rfl⟩)
      | fail)
    go_ret
    exact ⟨rfl, (unhide HB1).trans (((unhide HB2).trans ((unhide HW).below.mono (unhide HB2).size)).mono (by rw [unhide HS1]; omega))⟩
set_option maxHeartbeats 1000000 in
theorem oCheck1 (b : ByteArray) (W : World) : Calls Try.prog 64 (#[.string b] ++ #[]) W fun e W' => ∃ y, e = .returned y ∧ (y = .tuple #[.string b, .int .i64 0] ∧ Below W.heap.size W W') := by
  show Calls Try.prog 64 #[.string b] W _
  go_enter Try.func64, Try.ntmps64
  go_wp2
  go_ret2
  exact ⟨_, rfl, rfl, Below.refl _ _⟩
set_option maxRecDepth 100000 in
set_option maxHeartbeats 2000000 in
theorem oCheck {u : World} {o : Ot} {v : Sv} {n m : Nat} (h : Sx u o.st v n m) (r : Int) (hr : ckE o = r) : Calls Try.prog 30 #[obV o.key v n m] u fun e u' => e = .returned (.int .i64 r) ∧ Below u.heap.size u u' := by
  obtain ⟨N, hN⟩ : ∃ N, N = u.heap.size := ⟨_, rfl⟩
  have HN := hide hN
  have HU : Hid (∀ W : World, Below N u W → Below u.heap.size u W) := fun W hW => by rw [← unhide HN]; exact hW
  have HM : Hid (∀ W, Below N u W → ∃ x : ByteArray, Calls Try.prog 63 #[obV o.key v n m, .func (.func 64) #[] #[]] W fun e u' => e = .returned (.tuple #[.string x, .int .i64 r]) ∧ Below W.heap.size W u') := fun W hW => by
    by_cases hc : ckE o = 0
    · refine ⟨⟨(stB o.st).toArray⟩, oMayS (h.below (unhide HU _ hW)) _ _ (ent_lit _ (by kernel_rfl)) _ _ (fun _ V _ => ?_) (fun hn => absurd hc hn)⟩
      rw [← hr, hc]
      exact oCheck1 _ V
    · exact ⟨eB, oMayS (h.below (unhide HU _ hW)) _ _ (ent_lit _ (by kernel_rfl)) _ _ (fun hn => absurd hn hc) (fun _ => ⟨rfl, hr.symm⟩)⟩
  rw [← hN]
  clear hN h hr
  go_enter Try.func30, Try.ntmps30
  go_wp2_with (first
    | ((with_reducible refine wpList_box_ob (by rfl) (.tmp 0) (by rfl) (some 1) (by rfl) N (unhide HN) o.key v n m (by with_unfolding_all rfl) ?_); intro W1 HX1 HB1 HS1; simp only [Act.put, List.setIfInBounds_toArray, List.set_cons_zero, List.set_cons_succ]; obtain ⟨c0, c1, c2⟩ := ob_cells (unhide HX1); obtain ⟨x, hx⟩ := unhide HM W1 (unhide HB1); have HC := hide hx; clear hx)
    | (go_at_call 63; refine (unhide HC).mono ?_; rintro e W2 ⟨rfl, hb⟩; have HB2 := hide hb; clear hb)
    | fail)
  go_ret
  exact ⟨rfl, (unhide HB1).trans ((unhide HB2).mono (by rw [unhide HS1]; omega))⟩
end Go.Proofs.Ytkcbljmjhlnjpaa
namespace Go.Proofs.Ytkcbljmjhlnjpaa
open Go.RowKit Go.Lib
theorem cell_one {W : World} {N : Nat} {c : Value} {t : TypeId} (h : W.heap[N]? = some (.cells #[c] t (0, 0))) : W.cell? ⟨N, 0, none⟩ = some c := by simp [World.cell?, h]
theorem entFm : ∀ args (w : World), (callFunc 66 args).run Try.prog w = .ok (.enter 66 args) w := by
  intro args w
  go_simp
theorem entCt : ∀ args (w : World), (callFunc 68 args).run Try.prog w = .ok (.enter 68 args) w := by
  intro args w
  go_simp
set_option maxHeartbeats 1000000 in
theorem oForm1 {W : World} {g : Nat} {o : Ot} {v : Sv} {n m : Nat} (h : Lo W g o v n m) (hc : ckE o = 0) : Calls Try.prog 65 (#[.string ⟨(stB o.st).toArray⟩] ++ #[.pointer (some ⟨g, 0, none⟩)]) W fun e W' => ∃ y, e = .returned y ∧ (y = .tuple #[.string (formB o), .int .i64 0] ∧ Below W.heap.size W W') := by
  have HF := hide (oForm0 h.toSx (ck_zero.1 hc).1.2 (ck_zero.1 hc).2.2)
  obtain ⟨c0, c1, c2⟩ := h.cells
  generalize (⟨(stB o.st).toArray⟩ : ByteArray) = b at *
  clear h hc
  show Calls Try.prog 65 #[.string b, .pointer (some ⟨g, 0, none⟩)] W _
  go_enter Try.func65, Try.ntmps65
  go_wp2_with (first
    | (go_at_call 66; refine (unhide HF).mono ?_; rintro e W2 ⟨rfl, hb⟩; have HB2 := hide hb; clear hb)
    | fail)
  go_ret2
  exact ⟨_, rfl, rfl, unhide HB2⟩
set_option maxRecDepth 100000 in
set_option maxHeartbeats 2000000 in
theorem oForm {u : World} {o : Ot} {v : Sv} {n m : Nat} (h : Sx u o.st v n m) (x : ByteArray) (r : Int) (hx : formV o = (x, r)) : Calls Try.prog 31 #[obV o.key v n m] u fun e u' => e = .returned (.tuple #[.string x, .int .i64 r]) ∧ Below u.heap.size u u' := by
  obtain ⟨N, hN⟩ : ∃ N, N = u.heap.size := ⟨_, rfl⟩
  have HN := hide hN
  have HU : Hid (∀ W : World, Below N u W → Below u.heap.size u W) := fun W hW => by rw [← unhide HN]; exact hW
  have HM : Hid (∀ W, Below N u W → W.heap[N]? = some (obRow o.key v n m) → Calls Try.prog 63 #[obV o.key v n m, .func (.func 65) #[] #[.pointer (some ⟨N, 0, none⟩)]] W fun e u' => e = .returned (.tuple #[.string x, .int .i64 r]) ∧ Below W.heap.size W u') := fun W hW hR => by
    by_cases hc : ckE o = 0
    · rw [show formV o = (formB o, 0) by unfold formV; rw [if_pos hc]] at hx
      cases hx
      refine oMayS (h.below (unhide HU _ hW)) _ _ (ent_lit _ (by kernel_rfl)) _ _ (fun _ V hV => oForm1 (g := N) (v := v) (n := n) (m := m) ⟨(h.below (unhide HU _ hW)).below hV, box_below hR hV⟩ hc) (fun hn => absurd hc hn)
    · rw [show formV o = (eB, ckE o) by unfold formV; rw [if_neg hc]] at hx
      cases hx
      exact oMayS (h.below (unhide HU _ hW)) _ _ (ent_lit _ (by kernel_rfl)) _ _ (fun hn => absurd hn hc) (fun _ => ⟨rfl, rfl⟩)
  rw [← hN]
  clear hN h hx
  go_enter Try.func31, Try.ntmps31
  go_wp2_with (first
    | ((with_reducible refine wpList_box_ob (by rfl) (.tmp 0) (by rfl) (some 1) (by rfl) N (unhide HN) o.key v n m (by with_unfolding_all rfl) ?_); intro W1 HX1 HB1 HS1; simp only [Act.put, List.setIfInBounds_toArray, List.set_cons_zero, List.set_cons_succ]; obtain ⟨c0, c1, c2⟩ := ob_cells (unhide HX1))
    | (go_at_call 63; refine (unhide HM W1 (unhide HB1) (unhide HX1)).mono ?_; rintro e W2 ⟨rfl, hb⟩; have HB2 := hide hb; clear hb)
    | fail)
  go_ret2
  exact ⟨rfl, (unhide HB1).trans ((unhide HB2).mono (by rw [unhide HS1]; omega))⟩
theorem dCutR (s : ByteArray) (n : Int) (hs : s.size ≤ 140737488351232) (w : World) : Calls Try.prog 68 #[.string s, .int .i64 n] w fun e w' => e = .returned (.tuple #[.string (cutR s n).1, .int .i64 (cutR s n).2]) ∧ Below w.heap.size w w' := by
  unfold cutR
  by_cases h : 1 ≤ n ∧ n ≤ 32
  · rw [if_pos h]
    obtain ⟨k, rfl⟩ := Int.eq_ofNat_of_zero_le (by omega : 0 ≤ n)
    exact D.dCut s k (by omega) (by omega) (by omega) w
  · rw [if_neg h]
    refine (D.dCutNo s n (by omega) w).mono ?_
    rintro e w' ⟨h1, rfl⟩
    exact ⟨h1, Below.refl _ _⟩
theorem formB_size {o : Ot} (hc : ckE o = 0) : (formB o).size ≤ 140737488351232 := by
  obtain ⟨h1, h2, h3⟩ := ck_zero.1 hc
  unfold formB
  by_cases h : o.st.seen.length = 0
  · rw [if_pos h]; decide
  · rw [if_neg h]
    have h4 : (⟨(79 :: (textB o.key ++ stB o.st)).toArray⟩ : ByteArray).size = (79 :: (textB o.key ++ stB o.st)).length := List.size_toArray
    have h5 := (uintB_len 9 o.key.size).2
    have h6 : o.key.data.toList.length = o.key.size := rfl
    rw [h4]
    unfold textB
    simp only [List.length_append, List.length_cons, h6]
    omega
set_option maxRecDepth 100000 in
set_option maxHeartbeats 2000000 in
theorem oSum1 {W : World} {g gw : Nat} {o : Ot} {v : Sv} {n m : Nat} {wd : Int} (h : Lo W g o v n m) (hw : W.heap[gw]? = some (.cells #[.int .i64 wd] 3 (0, 0))) (hc : ckE o = 0) : Calls Try.prog 67 (#[.string ⟨(stB o.st).toArray⟩] ++ #[.pointer (some ⟨g, 0, none⟩), .pointer (some ⟨gw, 0, none⟩)]) W fun e W' => ∃ y, e = .returned y ∧ (y = .tuple #[.string (sumV o wd).1, .int .i64 (sumV o wd).2] ∧ Below W.heap.size W W') := by
  have hmix : Try.prog.follows .mixedOrders = true := by kernel_rfl
  have HFM : Hid (∀ V : World, Below W.heap.size W V → Calls Try.prog 66 #[obV o.key v n m, .string ⟨(stB o.st).toArray⟩] V fun e u' => e = .returned (.string (formB o)) ∧ Below V.heap.size V u') := fun V hV => oForm0 (h.toSx.below hV) (ck_zero.1 hc).1.2 (ck_zero.1 hc).2.2
  have HCT := hide (dCutR (formB o) wd (formB_size hc))
  have HAB := hide (oAbsent o.key v n m h.toSx.few)
  have hen := h.toSx.en
  have hs : sumV o wd = if n = 0 then (eB, (cutR (formB o) wd).2) else cutR (formB o) wd := by
    unfold sumV
    rw [if_pos hc, ← hen]
    by_cases h0 : n = 0
    · rw [if_pos h0, if_pos h0, show formB o = eB by unfold formB; rw [if_pos (by rw [← hen]; exact h0)]]
    · rw [if_neg h0, if_neg h0]
  rw [hs]
  have HL := hide h
  have HW := hide hw
  generalize formB o = fm at *
  generalize (⟨(stB o.st).toArray⟩ : ByteArray) = b at *
  obtain ⟨⟨x, r⟩, hxr⟩ : ∃ p, p = cutR fm wd := ⟨_, rfl⟩
  rw [← hxr] at HCT ⊢
  clear h hw hc hs hen hxr
  show Calls Try.prog 67 #[.string b, .pointer (some ⟨g, 0, none⟩), .pointer (some ⟨gw, 0, none⟩)] W _
  by_cases h0 : n = 0
  · rw [decide_eq_true h0] at HAB
    rw [if_pos h0]
    clear h0
    go_enter Try.func67, Try.ntmps67
    go_wp2_with fail
    refine wp_region_last (fun V => Below W.heap.size W V) 9 hmix (belowDrew (Below.refl _ _)) fun hS => ?_
    generalize W.drew = Z0 at hS ⊢
    refine wpAnyL_take 0 9 (obV o.key v n m) [] rfl rfl (by kernel_rfl) (by kernel_rfl) (by kernel_rfl) (by kernel_rfl) (by kernel_rfl) (fun _ _ _ h => h) (by rfl) (fun V hV => by obtain ⟨c0, c1, c2⟩ := ((unhide HL).below hV).cells; simp only [obV]; go_simp) hS ?_
    simp only [Act.put, List.setIfInBounds_toArray, List.set_cons_zero, List.set_cons_succ]
    refine wpAnyL_take 1 10 (.string b) [] rfl rfl (by kernel_rfl) (by kernel_rfl) (by kernel_rfl) (by kernel_rfl) (by kernel_rfl) (fun _ _ _ h => h) (by rfl) (fun _ _ => by go_simp) hS ?_
    simp only [Act.put, List.setIfInBounds_toArray, List.set_cons_zero, List.set_cons_succ]
    refine wpAnyL_take 3 12 (.int .i64 wd) [] rfl rfl (by kernel_rfl) (by kernel_rfl) (by kernel_rfl) (by kernel_rfl) (by kernel_rfl) (fun _ _ _ h => h) (by rfl) (fun V hV => by have cw := cell_one (box_below (unhide HW) hV); go_simp) hS ?_
    simp only [Act.put, List.setIfInBounds_toArray, List.set_cons_zero, List.set_cons_succ]
    refine wpAnyL_one (i := 2) (by kernel_rfl) rfl (by rfl) fun K hK => ?_
    refine wp_call_fn 66 _ _ (by rfl) #[obV o.key v n m, .string b] (by with_unfolding_all rfl) entFm (some 11) (by rfl) _ (asV (unhide HFM Z0 hS)) ?_
    rintro _ Z1 ⟨rfl, hbx⟩
    have HB1 : Hid (Below W.heap.size W Z1) := hS.trans (hbx.mono hS.size)
    clear hbx
    refine hK _ _ (fun _ => unhide HB1) ?_
    clear hK K
    simp only [Act.put, List.setIfInBounds_toArray, List.set_cons_zero, List.set_cons_succ]
    refine wpAnyL_one (i := 4) (by kernel_rfl) rfl (by rfl) fun K hK => ?_
    refine wp_call_fn 68 _ _ (by rfl) #[.string fm, .int .i64 wd] (by with_unfolding_all rfl) entCt (some 13) (by rfl) _ (asV (unhide HCT Z1)) ?_
    rintro _ Z2 ⟨rfl, hbx⟩
    have HB2 : Hid (Below W.heap.size W Z2) := (unhide HB1).trans (hbx.mono (unhide HB1).size)
    clear hbx
    refine hK _ _ (fun _ => unhide HB2) ?_
    clear hK K
    simp only [Act.put, List.setIfInBounds_toArray, List.set_cons_zero, List.set_cons_succ]
    refine wpAnyL_take 5 8 (.tuple #[.string x, .int .i64 r]) [] rfl rfl (by kernel_rfl) (by kernel_rfl) (by kernel_rfl) (by kernel_rfl) (by kernel_rfl) (fun _ _ _ h => h) (by rfl) (fun _ _ => by go_simp) (unhide HB2) ?_
    simp only [Act.put, List.setIfInBounds_toArray, List.set_cons_zero, List.set_cons_succ]
    refine wpAnyL_take 6 14 (.string x) [] rfl rfl (by kernel_rfl) (by kernel_rfl) (by kernel_rfl) (by kernel_rfl) (by kernel_rfl) (fun _ _ _ h => h) (by rfl) (fun _ _ => by go_simp) (unhide HB2) ?_
    simp only [Act.put, List.setIfInBounds_toArray, List.set_cons_zero, List.set_cons_succ]
    refine wpAnyL_take 7 15 (.int .i64 r) [] rfl rfl (by kernel_rfl) (by kernel_rfl) (by kernel_rfl) (by kernel_rfl) (by kernel_rfl) (fun _ _ _ h => h) (by rfl) (fun _ _ => by go_simp) (unhide HB2) ?_
    simp only [Act.put, List.setIfInBounds_toArray, List.set_cons_zero, List.set_cons_succ]
    refine wpAnyL_one (i := 8) (by kernel_rfl) rfl (by rfl) fun K hK => ?_
    refine wp_val (.string x) (by go_simp) (some 6) (by rfl) ?_
    refine hK _ _ (fun _ => unhide HB2) ?_
    clear hK K
    simp only [Act.put, List.setIfInBounds_toArray, List.set_cons_zero, List.set_cons_succ]
    refine wpAnyL_one (i := 9) (by kernel_rfl) rfl (by rfl) fun K hK => ?_
    refine wp_val (.int .i64 r) (by go_simp) (some 7) (by rfl) ?_
    refine hK _ _ (fun _ => unhide HB2) ?_
    clear hK K
    simp only [Act.put, List.setIfInBounds_toArray, List.set_cons_zero, List.set_cons_succ]
    refine wpAnyL_done (by kernel_rfl) ?_ _
    obtain ⟨c0, c1, c2⟩ := ((unhide HL).below (unhide HB2)).cells
    go_wp2_with (first
      | (go_at_call 57; refine (unhide HAB Z2).mono ?_; rintro e Z3 ⟨rfl, hb⟩; have HB3 : Hid (Below W.heap.size W Z3) := (unhide HB2).trans (hb.mono (unhide HB2).size); clear hb)
      | fail)
    go_ret2
    exact ⟨_, rfl, rfl, unhide HB3⟩
  · rw [decide_eq_false h0] at HAB
    rw [if_neg h0]
    clear h0
    go_enter Try.func67, Try.ntmps67
    go_wp2_with fail
    refine wp_region_last (fun V => Below W.heap.size W V) 9 hmix (belowDrew (Below.refl _ _)) fun hS => ?_
    generalize W.drew = Z0 at hS ⊢
    refine wpAnyL_take 0 9 (obV o.key v n m) [] rfl rfl (by kernel_rfl) (by kernel_rfl) (by kernel_rfl) (by kernel_rfl) (by kernel_rfl) (fun _ _ _ h => h) (by rfl) (fun V hV => by obtain ⟨c0, c1, c2⟩ := ((unhide HL).below hV).cells; simp only [obV]; go_simp) hS ?_
    simp only [Act.put, List.setIfInBounds_toArray, List.set_cons_zero, List.set_cons_succ]
    refine wpAnyL_take 1 10 (.string b) [] rfl rfl (by kernel_rfl) (by kernel_rfl) (by kernel_rfl) (by kernel_rfl) (by kernel_rfl) (fun _ _ _ h => h) (by rfl) (fun _ _ => by go_simp) hS ?_
    simp only [Act.put, List.setIfInBounds_toArray, List.set_cons_zero, List.set_cons_succ]
    refine wpAnyL_take 3 12 (.int .i64 wd) [] rfl rfl (by kernel_rfl) (by kernel_rfl) (by kernel_rfl) (by kernel_rfl) (by kernel_rfl) (fun _ _ _ h => h) (by rfl) (fun V hV => by have cw := cell_one (box_below (unhide HW) hV); go_simp) hS ?_
    simp only [Act.put, List.setIfInBounds_toArray, List.set_cons_zero, List.set_cons_succ]
    refine wpAnyL_one (i := 2) (by kernel_rfl) rfl (by rfl) fun K hK => ?_
    refine wp_call_fn 66 _ _ (by rfl) #[obV o.key v n m, .string b] (by with_unfolding_all rfl) entFm (some 11) (by rfl) _ (asV (unhide HFM Z0 hS)) ?_
    rintro _ Z1 ⟨rfl, hbx⟩
    have HB1 : Hid (Below W.heap.size W Z1) := hS.trans (hbx.mono hS.size)
    clear hbx
    refine hK _ _ (fun _ => unhide HB1) ?_
    clear hK K
    simp only [Act.put, List.setIfInBounds_toArray, List.set_cons_zero, List.set_cons_succ]
    refine wpAnyL_one (i := 4) (by kernel_rfl) rfl (by rfl) fun K hK => ?_
    refine wp_call_fn 68 _ _ (by rfl) #[.string fm, .int .i64 wd] (by with_unfolding_all rfl) entCt (some 13) (by rfl) _ (asV (unhide HCT Z1)) ?_
    rintro _ Z2 ⟨rfl, hbx⟩
    have HB2 : Hid (Below W.heap.size W Z2) := (unhide HB1).trans (hbx.mono (unhide HB1).size)
    clear hbx
    refine hK _ _ (fun _ => unhide HB2) ?_
    clear hK K
    simp only [Act.put, List.setIfInBounds_toArray, List.set_cons_zero, List.set_cons_succ]
    refine wpAnyL_take 5 8 (.tuple #[.string x, .int .i64 r]) [] rfl rfl (by kernel_rfl) (by kernel_rfl) (by kernel_rfl) (by kernel_rfl) (by kernel_rfl) (fun _ _ _ h => h) (by rfl) (fun _ _ => by go_simp) (unhide HB2) ?_
    simp only [Act.put, List.setIfInBounds_toArray, List.set_cons_zero, List.set_cons_succ]
    refine wpAnyL_take 6 14 (.string x) [] rfl rfl (by kernel_rfl) (by kernel_rfl) (by kernel_rfl) (by kernel_rfl) (by kernel_rfl) (fun _ _ _ h => h) (by rfl) (fun _ _ => by go_simp) (unhide HB2) ?_
    simp only [Act.put, List.setIfInBounds_toArray, List.set_cons_zero, List.set_cons_succ]
    refine wpAnyL_take 7 15 (.int .i64 r) [] rfl rfl (by kernel_rfl) (by kernel_rfl) (by kernel_rfl) (by kernel_rfl) (by kernel_rfl) (fun _ _ _ h => h) (by rfl) (fun _ _ => by go_simp) (unhide HB2) ?_
    simp only [Act.put, List.setIfInBounds_toArray, List.set_cons_zero, List.set_cons_succ]
    refine wpAnyL_one (i := 8) (by kernel_rfl) rfl (by rfl) fun K hK => ?_
    refine wp_val (.string x) (by go_simp) (some 6) (by rfl) ?_
    refine hK _ _ (fun _ => unhide HB2) ?_
    clear hK K
    simp only [Act.put, List.setIfInBounds_toArray, List.set_cons_zero, List.set_cons_succ]
    refine wpAnyL_one (i := 9) (by kernel_rfl) rfl (by rfl) fun K hK => ?_
    refine wp_val (.int .i64 r) (by go_simp) (some 7) (by rfl) ?_
    refine hK _ _ (fun _ => unhide HB2) ?_
    clear hK K
    simp only [Act.put, List.setIfInBounds_toArray, List.set_cons_zero, List.set_cons_succ]
    refine wpAnyL_done (by kernel_rfl) ?_ _
    obtain ⟨c0, c1, c2⟩ := ((unhide HL).below (unhide HB2)).cells
    go_wp2_with (first
      | (go_at_call 57; refine (unhide HAB Z2).mono ?_; rintro e Z3 ⟨rfl, hb⟩; have HB3 : Hid (Below W.heap.size W Z3) := (unhide HB2).trans (hb.mono (unhide HB2).size); clear hb)
      | fail)
    go_ret2
    exact ⟨_, rfl, rfl, unhide HB3⟩
set_option maxRecDepth 100000 in
set_option maxHeartbeats 2000000 in
theorem oSum {u : World} {o : Ot} {v : Sv} {n m : Nat} (h : Sx u o.st v n m) (wd : Int) (x : ByteArray) (r : Int) (hx : sumV o wd = (x, r)) : Calls Try.prog 32 #[obV o.key v n m, .int .i64 wd] u fun e u' => e = .returned (.tuple #[.string x, .int .i64 r]) ∧ Below u.heap.size u u' := by
  obtain ⟨N, hN⟩ : ∃ N, N = u.heap.size := ⟨_, rfl⟩
  have HN := hide hN
  have HU : Hid (∀ W : World, Below N u W → Below u.heap.size u W) := fun W hW => by rw [← unhide HN]; exact hW
  have HM : Hid (∀ W, Below N u W → W.heap[N]? = some (obRow o.key v n m) → W.heap[N + 1]? = some (.cells #[.int .i64 wd] 3 (0, 0)) → Calls Try.prog 63 #[obV o.key v n m, .func (.func 67) #[] #[.pointer (some ⟨N, 0, none⟩), .pointer (some ⟨N + 1, 0, none⟩)]] W fun e u' => e = .returned (.tuple #[.string x, .int .i64 r]) ∧ Below W.heap.size W u') := fun W hW hR hR2 => by
    by_cases hc : ckE o = 0
    · refine oMayS (h.below (unhide HU _ hW)) _ _ (ent_lit _ (by kernel_rfl)) _ _ (fun _ V hV => ?_) (fun hn => absurd hc hn)
      have := oSum1 (g := N) (v := v) (n := n) (m := m) (gw := N + 1) (wd := wd) ⟨(h.below (unhide HU _ hW)).below hV, box_below hR hV⟩ (box_below hR2 hV) hc
      rw [hx] at this
      exact this
    · rw [show sumV o wd = (eB, ckE o) by unfold sumV; rw [if_neg hc]] at hx
      cases hx
      exact oMayS (h.below (unhide HU _ hW)) _ _ (ent_lit _ (by kernel_rfl)) _ _ (fun hn => absurd hn hc) (fun _ => ⟨rfl, rfl⟩)
  rw [← hN]
  clear hN h hx
  go_enter Try.func32, Try.ntmps32
  go_wp2_with (first
    | ((with_reducible refine wpList_box_ob (by rfl) (.tmp 0) (by rfl) (some 2) (by rfl) N (unhide HN) o.key v n m (by with_unfolding_all rfl) ?_); intro W1 HX1 HB1 HS1; simp only [Act.put, List.setIfInBounds_toArray, List.set_cons_zero, List.set_cons_succ]; skip)
    | ((with_reducible refine wpList_box_row (by rfl) _ (.tmp 1) (by rfl) (some 3) (by rfl) (N + 1) (unhide HS1) _ (by with_unfolding_all rfl) ?_); intro W2 HX2 HB2 HS2; simp only [Act.put, List.setIfInBounds_toArray, List.set_cons_zero, List.set_cons_succ]; replace HX1 := hide (((unhide HB2).block N (Nat.lt_succ_self _)).trans (unhide HX1)); obtain ⟨c0, c1, c2⟩ := ob_cells (unhide HX1); replace HB1 : Hid (Below N u W2) := (unhide HB1).trans ((unhide HB2).mono (Nat.le_succ _)))
    | (go_at_call 63; refine (unhide HM W2 (unhide HB1) (unhide HX1) (unhide HX2)).mono ?_; rintro e W3 ⟨rfl, hb⟩; have HB3 := hide hb; clear hb)
    | fail)
  go_ret2
  exact ⟨rfl, (unhide HB1).trans ((unhide HB3).mono (by rw [unhide HS2]; omega))⟩
set_option maxHeartbeats 1000000 in
theorem oPlace (k : ByteArray) (u : World) : Calls Try.prog 11 #[.string k] u fun e u' => e = .returned (.tuple #[.int .i64 (if keyE k = 0 then (plN k : Int) else 0), .int .i64 (keyE k)]) ∧ Below u.heap.size u u' := by
  have HK := hide (oKey k)
  by_cases h : keyE k = 0
  · rw [if_pos h, h]
    rw [h] at HK
    have HP := hide (oPlace0 k (keyE_zero.1 h).2)
    generalize plN k = p at *
    clear h
    go_enter Try.func11, Try.ntmps11
    go_wp2_with (first
      | (go_at_call 12; refine (unhide HK u).mono ?_; rintro e W1 ⟨rfl, rfl⟩)
      | (go_at_call 33; refine (unhide HP _).mono ?_; rintro e W2 ⟨rfl, hb⟩; have HB := hide hb; clear hb)
      | fail)
    go_ret2
    exact ⟨rfl, unhide HB⟩
  · rw [if_neg h]
    have e : keyE k = 130 := by
      unfold keyE at h ⊢
      by_cases h2 : 1 ≤ k.size ∧ k.size ≤ 32
      · rw [if_pos h2] at h; exact absurd rfl h
      · rw [if_neg h2]
    rw [e] at HK ⊢
    clear h e
    go_enter Try.func11, Try.ntmps11
    go_wp2_with (first
      | (go_at_call 12; refine (unhide HK u).mono ?_; rintro e W1 ⟨rfl, rfl⟩)
      | fail)
    go_ret2
    exact ⟨rfl, Below.refl _ _⟩
end Go.Proofs.Ytkcbljmjhlnjpaa
