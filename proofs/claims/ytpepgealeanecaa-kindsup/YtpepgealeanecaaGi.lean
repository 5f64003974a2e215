/- Reals and corners: made and asked. -/
import Derived.Test.YtpepgealeanecaaGh
namespace Go.Proofs.Ytpepgealeanecaa
open Go.RowKit Go.Lib
theorem bTyF (k : Nat) (ao : Option Addr) (n c : Nat) (W : World) : (Instr.build 77 #[(0, .int .u8 (k : Int)), (2, .slice ao n c)]).run Try.prog W = .ok (tyV k false ao n c ta0 none 0 0) W := run_build W _ _ _ (by kernel_rfl)
theorem bsF2 (W : World) (x y : Nat) : (Instr.buildSlice 28 2 #[(0, .float .f64 x), (1, .float .f64 y)]).run Try.prog W = .ok (.slice (some ⟨W.heap.size, 0, none⟩) 2 2) (W.alloc (.cells #[.float .f64 x, .float .f64 y] 36)) := by kernel_rfl
/-- floats that were just laid -/
theorem tat_new (W : World) (k : Nat) (hk : k < 256) (l : List Nat) (hb : ∀ b ∈ l, b < 18446744073709551616) (hl : l.length ≤ 2) (t : TypeId) : TAt (W.alloc (.cells (flC l).toArray t)) ⟨k, false, l, ta0, []⟩ (some ⟨W.heap.size, 0, none⟩) l.length none 0 := by
  refine ⟨hk, fun _ => ⟨_, 0, rfl, fun j v hv => ?_⟩, Lies.nil _ _, hb, fun b hb => (by cases hb), rfl, (by decide : ∀ x ∈ ta0, x < 65536), Nat.le_refl _, Nat.le_refl _, fun e => (by cases e), fun _ => rfl, Nat.le_trans hl (by decide), Nat.zero_le _⟩
  have h1 : (W.alloc (.cells (flC l).toArray t)).heap[W.heap.size]? = some (.cells (flC l).toArray t (0, 0)) := heap_alloc_new _ _
  simp only [World.cell?, h1, Nat.zero_add]
  simpa using hv
set_option maxRecDepth 100000 in
set_option maxHeartbeats 4000000 in
theorem kReal (x : Nat) (hx : x < 18446744073709551616) (u : World) : Calls Try.prog 28 #[.float .f64 x] u fun e u' => e = .returned (.string (tS (rT x))) ∧ Below u.heap.size u u' := by
  have HE : Hid ((⟨(toldM ⟨2, false, [x], ta0, []⟩).toArray⟩ : ByteArray) = tS (rT x)) := by
    show _ = _
    unfold tS
    rw [told_r]
    rfl
  have HA := hide (tat_new u 2 (by decide) [x] (by intro b hb; simp at hb; omega) (by simp) 36)
  have HTO : Hid (Calls Try.prog 52 #[.agg #[.int .u8 2, .bool false, .slice (some ⟨u.heap.size, 0, none⟩) 1 1, .int .u16 0, .int .u16 0, .int .u16 0, .int .u16 0, .int .u16 0, .int .u16 0, .int .u16 0, .int .u16 0, .int .u16 0, .int .u16 0, .slice none 0 0]] (u.alloc (.cells #[.float .f64 x] 36)) fun e w' => e = .returned (.string (⟨(toldM ⟨2, false, [x], ta0, []⟩).toArray⟩ : ByteArray)) ∧ Below (u.alloc (.cells #[.float .f64 x] 36)).heap.size (u.alloc (.cells #[.float .f64 x] 36)) w') := told2 ⟨2, false, [x], ta0, []⟩ rfl (some ⟨u.heap.size, 0, none⟩) 1 none 0 1 0 rfl rfl (u.alloc (.cells #[.float .f64 x] 36)) (unhide HA)
  rw [unhide HE] at HTO
  have HB0 : Hid (Below u.heap.size u (u.alloc (.cells #[.float .f64 x] 36))) := (Below.refl _ _).alloc (Nat.le_refl _) _
  clear HA HE hx
  go_enter Try.func28, Try.ntmps28
  go_wp2_with (first
    | (go_at_call 52; refine (unhide HTO).mono ?_; rintro e W2 ⟨rfl, hb⟩; have HB2 := hide hb; clear hb)
    | fail)
  go_ret
  exact ⟨rfl, (unhide HB0).trans ((unhide HB2).mono (unhide HB0).size)⟩
set_option maxRecDepth 100000 in
set_option maxHeartbeats 4000000 in
theorem kCorner (x y : Nat) (hx : x < 18446744073709551616) (hy : y < 18446744073709551616) (u : World) : Calls Try.prog 29 #[.complex .f64 x y] u fun e u' => e = .returned (.string (tS (cT x y))) ∧ Below u.heap.size u u' := by
  have HE : Hid ((⟨(toldM ⟨5, false, [x, y], ta0, []⟩).toArray⟩ : ByteArray) = tS (cT x y)) := by
    show _ = _
    unfold tS
    rw [told_c, toldM, bodyM]
    simp [fltsB]
  have HA := hide (tat_new u 5 (by decide) [x, y] (by intro b hb; simp at hb; omega) (by simp) 36)
  have HTO : Hid (Calls Try.prog 52 #[.agg #[.int .u8 5, .bool false, .slice (some ⟨u.heap.size, 0, none⟩) 2 2, .int .u16 0, .int .u16 0, .int .u16 0, .int .u16 0, .int .u16 0, .int .u16 0, .int .u16 0, .int .u16 0, .int .u16 0, .int .u16 0, .slice none 0 0]] (u.alloc (.cells #[.float .f64 x, .float .f64 y] 36)) fun e w' => e = .returned (.string (⟨(toldM ⟨5, false, [x, y], ta0, []⟩).toArray⟩ : ByteArray)) ∧ Below (u.alloc (.cells #[.float .f64 x, .float .f64 y] 36)).heap.size (u.alloc (.cells #[.float .f64 x, .float .f64 y] 36)) w') := told5 ⟨5, false, [x, y], ta0, []⟩ rfl (some ⟨u.heap.size, 0, none⟩) 2 none 0 2 0 rfl rfl (u.alloc (.cells #[.float .f64 x, .float .f64 y] 36)) (unhide HA)
  rw [unhide HE] at HTO
  have HB0 : Hid (Below u.heap.size u (u.alloc (.cells #[.float .f64 x, .float .f64 y] 36))) := (Below.refl _ _).alloc (Nat.le_refl _) _
  clear HA HE hx hy
  go_enter Try.func29, Try.ntmps29
  go_wp2_with (first
    | (go_at_call 52; refine (unhide HTO).mono ?_; rintro e W2 ⟨rfl, hb⟩; have HB2 := hide hb; clear hb)
    | fail)
  go_ret
  exact ⟨rfl, (unhide HB0).trans ((unhide HB2).mono (unhide HB0).size)⟩
set_option maxRecDepth 100000 in
set_option maxHeartbeats 4000000 in
theorem kAsRealNo (s : ByteArray) (x : Option Ty) (hx : ofK 2 x = none) (h : Takes s x) (u : World) : Calls Try.prog 20 #[.string s] u fun e u' => e = .returned (.tuple #[.float .f64 0, .int .i64 120]) ∧ Below u.heap.size u u' := by
  have HT : Hid (∀ u : World, Calls Try.prog 50 #[.string s, .int .u8 2] u fun z u' => z = .returned (.tuple #[tyV 0 false none 0 0 ta0 none 0 0, .int .i64 120]) ∧ Below u.heap.size u u') := fun u => (kAs s 2 x h u).mono fun z u' hh => by
    rw [hx] at hh
    obtain ⟨v, h1, h2, h3⟩ := hh
    exact ⟨by rw [h1, h2], h3⟩
  clear h hx
  go_enter Try.func20, Try.ntmps20
  go_wp2_with (first
    | (go_at_call 50; refine (unhide HT u).mono ?_; rintro e W1 ⟨rfl, hb1⟩; have HB1 := hide hb1; clear hb1; obtain ⟨M, hM⟩ : ∃ M, M = W1.heap.size := ⟨_, rfl⟩; have HM := hide hM; clear hM)
    | ((with_reducible refine wpList_alloc_ty (by rfl) (by rfl) (some 4) (by rfl) M (unhide HM) ?_); intro W2 HX2 HB2 HS2; simp only [Act.put, List.setIfInBounds_toArray, List.set_cons_zero, List.set_cons_succ])
    | ((with_reducible refine wpList_store_ty (by rfl) (.tmp 4) (.tmp 9) (by rfl) M 0 false none 0 0 ta0 none 0 0 (by with_unfolding_all rfl) (by with_unfolding_all rfl) rfl (unhide HX2) ?_); intro W3 HX3 HE3 HS3 HO3; simp only [Act.put]; have HB3 : Hid (Below u.heap.size u W3) := (unhide HB1).trans ((unhide HE3 M W1 (Nat.le_refl _) (unhide HB2)).mono (by rw [unhide HM]; exact (unhide HB1).size)))
    | fail)
  go_ret2
  exact ⟨rfl, unhide HB3⟩
set_option maxRecDepth 100000 in
set_option maxHeartbeats 4000000 in
theorem kAsReal (s : ByteArray) (t : Ty) (hk : t.k = 2) (b0 : Nat) (hf : t.fl = [b0]) (h : Takes s (some t)) (u : World) : Calls Try.prog 20 #[.string s] u fun e u' => e = .returned (.tuple #[.float .f64 b0, .int .i64 0]) ∧ Below u.heap.size u u' := by
  have HT : Hid (∀ u : World, Calls Try.prog 50 #[.string s, .int .u8 2] u fun z u' => ∃ fa fc ra rc m, z = .returned (.tuple #[tyV 2 t.on fa 1 fc t.ta ra m rc, .int .i64 0]) ∧ TAt u' t fa fc ra rc ∧ Below u.heap.size u u') := fun u => by
    have q := kAsYes s t h u
    rw [hk] at q
    refine q.mono fun z u' hh => ?_
    obtain ⟨v, h1, fa, fc, ra, rc, n, m, h2, h3, h4, h5, h6, _⟩ := hh
    rw [hf] at h3
    rw [hk, h3] at h2
    exact ⟨fa, fc, ra, rc, m, by rw [h1, h2]; rfl, h5, h6⟩
  have HFL := hide hf
  have HTL : Hid (∀ (w : World) fa fc ra rc, TAt w t fa fc ra rc → t.ta.length = 10) := fun w fa fc ra rc h => h.tl
  obtain ⟨on, hon⟩ : ∃ k, k = t.on := ⟨_, rfl⟩
  obtain ⟨ta, hta⟩ : ∃ k, k = t.ta := ⟨_, rfl⟩
  rw [← hon, ← hta] at HT
  rw [← hta] at HTL
  clear h hk hf hon hta
  go_enter Try.func20, Try.ntmps20
  go_wp2_with (first
    | (go_at_call 50; refine (unhide HT u).mono ?_; rintro e W1 ⟨fa, fc, ra, rc, m, rfl, ht1, hb1⟩; have HTA1 := hide ht1; have HB1 := hide hb1; clear hb1 ht1; obtain ⟨M, hM⟩ : ∃ M, M = W1.heap.size := ⟨_, rfl⟩; have HM := hide hM; clear hM)
    | ((with_reducible refine wpList_alloc_ty (by rfl) (by rfl) (some 4) (by rfl) M (unhide HM) ?_); intro W2 HX2 HB2 HS2; simp only [Act.put, List.setIfInBounds_toArray, List.set_cons_zero, List.set_cons_succ])
    | ((with_reducible refine wpList_store_ty (by rfl) (.tmp 4) (.tmp 9) (by rfl) M 2 on fa 1 fc ta ra m rc (by with_unfolding_all rfl) (by with_unfolding_all rfl) (unhide HTL _ _ _ _ _ (unhide HTA1)) (unhide HX2) ?_); intro W3 HX3 HE3 HS3 HO3; simp only [Act.put]; have HB13 : Hid (Below W1.heap.size W1 W3) := (by have := unhide HE3 M W1 (Nat.le_refl _) (unhide HB2); rw [unhide HM] at this; exact this); have HB3 : Hid (Below u.heap.size u W3) := (unhide HB1).trans ((unhide HB13).mono (unhide HB1).size); have c2 := (unhide HX3).c2; obtain ⟨g, o, hao, hr⟩ := ((unhide HTA1).fl.below (unhide HB13)) (by rw [flC_len, unhide HFL]; exact Nat.succ_pos _); rw [unhide HFL] at hr; have d0 : W3.cell? ⟨g, o, none⟩ = some (.float .f64 b0) := hr 0 _ rfl; have hix : ∀ W : World, (Instr.indexAt 28 (.slice (some ⟨g, o, none⟩) 1 fc) (.int .i64 0)).run Try.prog W = .ok (.pointer (some ⟨g, o, none⟩)) W := (fun W => ixF g o 1 fc 0 (by decide) W); clear hr; subst hao)
    | fail)
  go_ret2
  exact ⟨rfl, unhide HB3⟩
set_option maxRecDepth 100000 in
set_option maxHeartbeats 4000000 in
theorem kAsCornerNo (s : ByteArray) (x : Option Ty) (hx : ofK 5 x = none) (h : Takes s x) (u : World) : Calls Try.prog 21 #[.string s] u fun e u' => e = .returned (.tuple #[.complex .f64 0 0, .int .i64 120]) ∧ Below u.heap.size u u' := by
  have HT : Hid (∀ u : World, Calls Try.prog 50 #[.string s, .int .u8 5] u fun z u' => z = .returned (.tuple #[tyV 0 false none 0 0 ta0 none 0 0, .int .i64 120]) ∧ Below u.heap.size u u') := fun u => (kAs s 5 x h u).mono fun z u' hh => by
    rw [hx] at hh
    obtain ⟨v, h1, h2, h3⟩ := hh
    exact ⟨by rw [h1, h2], h3⟩
  clear h hx
  go_enter Try.func21, Try.ntmps21
  go_wp2_with (first
    | (go_at_call 50; refine (unhide HT u).mono ?_; rintro e W1 ⟨rfl, hb1⟩; have HB1 := hide hb1; clear hb1; obtain ⟨M, hM⟩ : ∃ M, M = W1.heap.size := ⟨_, rfl⟩; have HM := hide hM; clear hM)
    | ((with_reducible refine wpList_alloc_ty (by rfl) (by rfl) (some 4) (by rfl) M (unhide HM) ?_); intro W2 HX2 HB2 HS2; simp only [Act.put, List.setIfInBounds_toArray, List.set_cons_zero, List.set_cons_succ])
    | ((with_reducible refine wpList_store_ty (by rfl) (.tmp 4) (.tmp 9) (by rfl) M 0 false none 0 0 ta0 none 0 0 (by with_unfolding_all rfl) (by with_unfolding_all rfl) rfl (unhide HX2) ?_); intro W3 HX3 HE3 HS3 HO3; simp only [Act.put]; have HB3 : Hid (Below u.heap.size u W3) := (unhide HB1).trans ((unhide HE3 M W1 (Nat.le_refl _) (unhide HB2)).mono (by rw [unhide HM]; exact (unhide HB1).size)))
    | fail)
  go_ret2
  exact ⟨rfl, unhide HB3⟩
set_option maxRecDepth 100000 in
set_option maxHeartbeats 4000000 in
theorem kAsCorner (s : ByteArray) (t : Ty) (hk : t.k = 5) (b0 b1 : Nat) (hf : t.fl = [b0, b1]) (h : Takes s (some t)) (u : World) : Calls Try.prog 21 #[.string s] u fun e u' => e = .returned (.tuple #[.complex .f64 b0 b1, .int .i64 0]) ∧ Below u.heap.size u u' := by
  have HT : Hid (∀ u : World, Calls Try.prog 50 #[.string s, .int .u8 5] u fun z u' => ∃ fa fc ra rc m, z = .returned (.tuple #[tyV 5 t.on fa 2 fc t.ta ra m rc, .int .i64 0]) ∧ TAt u' t fa fc ra rc ∧ Below u.heap.size u u') := fun u => by
    have q := kAsYes s t h u
    rw [hk] at q
    refine q.mono fun z u' hh => ?_
    obtain ⟨v, h1, fa, fc, ra, rc, n, m, h2, h3, h4, h5, h6, _⟩ := hh
    rw [hf] at h3
    rw [hk, h3] at h2
    exact ⟨fa, fc, ra, rc, m, by rw [h1, h2]; rfl, h5, h6⟩
  have HFL := hide hf
  have HTL : Hid (∀ (w : World) fa fc ra rc, TAt w t fa fc ra rc → t.ta.length = 10) := fun w fa fc ra rc h => h.tl
  obtain ⟨on, hon⟩ : ∃ k, k = t.on := ⟨_, rfl⟩
  obtain ⟨ta, hta⟩ : ∃ k, k = t.ta := ⟨_, rfl⟩
  rw [← hon, ← hta] at HT
  rw [← hta] at HTL
  clear h hk hf hon hta
  go_enter Try.func21, Try.ntmps21
  go_wp2_with (first
    | (go_at_call 50; refine (unhide HT u).mono ?_; rintro e W1 ⟨fa, fc, ra, rc, m, rfl, ht1, hb1⟩; have HTA1 := hide ht1; have HB1 := hide hb1; clear hb1 ht1; obtain ⟨M, hM⟩ : ∃ M, M = W1.heap.size := ⟨_, rfl⟩; have HM := hide hM; clear hM)
    | ((with_reducible refine wpList_alloc_ty (by rfl) (by rfl) (some 4) (by rfl) M (unhide HM) ?_); intro W2 HX2 HB2 HS2; simp only [Act.put, List.setIfInBounds_toArray, List.set_cons_zero, List.set_cons_succ])
    | ((with_reducible refine wpList_store_ty (by rfl) (.tmp 4) (.tmp 9) (by rfl) M 5 on fa 2 fc ta ra m rc (by with_unfolding_all rfl) (by with_unfolding_all rfl) (unhide HTL _ _ _ _ _ (unhide HTA1)) (unhide HX2) ?_); intro W3 HX3 HE3 HS3 HO3; simp only [Act.put]; have HB13 : Hid (Below W1.heap.size W1 W3) := (by have := unhide HE3 M W1 (Nat.le_refl _) (unhide HB2); rw [unhide HM] at this; exact this); have HB3 : Hid (Below u.heap.size u W3) := (unhide HB1).trans ((unhide HB13).mono (unhide HB1).size); have c2 := (unhide HX3).c2; obtain ⟨g, o, hao, hr⟩ := ((unhide HTA1).fl.below (unhide HB13)) (by rw [flC_len, unhide HFL]; exact Nat.succ_pos _); rw [unhide HFL] at hr; have d0 : W3.cell? ⟨g, o, none⟩ = some (.float .f64 b0) := hr 0 _ rfl; have d1 : W3.cell? ⟨g, o + 1, none⟩ = some (.float .f64 b1) := hr 1 _ rfl; have hix1 : ∀ W : World, (Instr.indexAt 28 (.slice (some ⟨g, o, none⟩) 2 fc) (.int .i64 1)).run Try.prog W = .ok (.pointer (some ⟨g, o + 1, none⟩)) W := (fun W => ixF g o 2 fc 1 (by decide) W); have hix : ∀ W : World, (Instr.indexAt 28 (.slice (some ⟨g, o, none⟩) 2 fc) (.int .i64 0)).run Try.prog W = .ok (.pointer (some ⟨g, o, none⟩)) W := (fun W => ixF g o 2 fc 0 (by decide) W); clear hr; subst hao)
    | fail)
  go_quiet (fail)
  have HB4 : Hid (Below u.heap.size u (W3.drewN nq)) := belowDrewN (unhide HB3) _
  generalize W3.drewN nq = X at HB4 ⊢
  go_wp2
  go_ret2
  exact ⟨rfl, unhide HB4⟩
end Go.Proofs.Ytpepgealeanecaa
