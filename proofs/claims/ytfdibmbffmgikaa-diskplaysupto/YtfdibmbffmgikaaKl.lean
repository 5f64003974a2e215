/- The disk's laws: wakes. -/
import Derived.Test.YtfdibmbffmgikaaKk
namespace Go.Proofs.Ytfdibmbffmgikaa
open Go.RowKit Go.Lib

theorem wp_val {P : Program} {o : Oper} {a : Act} {w : World} {K : Act → World → Prop} {Q : Exit → Act → World → Prop} (v : Value) (hrun : (execOp a.eval o).run P w = .ok (.value v) w) (d : Option Tmp) (hd : o.dst = d) (h : K (a.put d v) w) : o.wp P a w K Q := by
  subst hd
  unfold Oper.wp
  rw [hrun]
  exact h
theorem Dk.asked_neg {d : Dk} (h : d.fuse < 0) : d.asked = d := by
  unfold Dk.asked
  rw [if_neg (by omega), if_neg (by omega)]
theorem Dk.write_ok {d : Dk} (h1 : d.off = false) (h2 : d.fuse < 0) {n : Nat} (h3 : n < d.lies.length) {bs : List UInt8} (h4 : bs.length = 1024) : d.write (n : Int) bs = (0, d.put n bs) := by
  have e0 : d.refused (n : Int) = 0 := by rw [Dk.refused, h1, if_neg (by decide), if_pos ⟨by omega, by omega⟩]
  unfold Dk.write
  rw [if_neg (fun h => h e0), if_neg (fun h => h h4), if_neg (by omega), Dk.asked_neg h2]
  rfl
theorem Dk.sync_ok {d : Dk} (h1 : d.off = false) (h2 : d.fuse < 0) : d.sync = (0, d.settle fun _ => 1024) := by
  unfold Dk.sync
  rw [h1, if_neg (by decide), if_neg (by omega), Dk.asked_neg h2]
section
variable {B : Nat} {u : World} {D : Nat} {d : Dk} {F : List Nat}
theorem kWriteN (h : Dsk B u D F d) (hB : B ≤ u.heap.size) (x : Int) (ao : Option Addr) (n c : Nat) (bs : List UInt8) (hn : n = bs.length) (hs : Bs u ao bs F) (hm : d.pend.length ≤ 1000000000) (r : Int × Dk) (hr : d.write x bs = r) :
    Calls Try.prog 13 #[.pointer (some ⟨D, 0, none⟩), .int .i64 x, .slice ao n c] u fun e u' => e = .returned (.int .i64 r.1) ∧ ∃ F', Dsk B u' D F' r.2 ∧ UpS u u' F ∧ ∀ k ∈ F', k ∈ F ∨ u.heap.size ≤ k := by
  subst hn hr
  exact kWrite h hB x ao c bs hs hm
theorem kSyncN (h : Dsk B u D F d) (hm : d.pend.length ≤ 1000000000) (r : Int × Dk) (hr : d.sync = r) : Calls Try.prog 14 #[.pointer (some ⟨D, 0, none⟩)] u fun e u' => e = .returned (.int .i64 r.1) ∧ ∃ F', Dsk B u' D F' r.2 ∧ UpS u u' F ∧ ∀ k ∈ F', k ∈ F := by
  subst hr
  exact kSync h hm
theorem kPendingD (h : Dsk B u D F d) : Calls Try.prog 16 #[.pointer (some ⟨D, 0, none⟩)] u fun e u' => e = .returned (.int .i64 (d.pend.length : Int)) ∧ u' = u := by
  obtain ⟨L, T, v, f, rfl, h⟩ := h
  exact kPending h
theorem kPagesD (h : Dsk B u D F d) : Calls Try.prog 15 #[.pointer (some ⟨D, 0, none⟩)] u fun e u' => e = .returned (.int .i64 (d.lies.length : Int)) ∧ u' = u := by
  obtain ⟨L, T, v, f, rfl, h⟩ := h
  exact kPages h
theorem kLitD (h : Dsk B u D F d) : Calls Try.prog 17 #[.pointer (some ⟨D, 0, none⟩)] u fun e u' => e = .returned (.bool (!d.off)) ∧ u' = u := by
  obtain ⟨L, T, v, f, rfl, h⟩ := h
  exact kLit h
theorem kFuseD (h : Dsk B u D F d) (x : Int) (hx : x ≤ 9223372036854775807) : Calls Try.prog 10 #[.pointer (some ⟨D, 0, none⟩), .int .i64 x] u fun e u' => e = .returned (.tuple #[]) ∧ Dsk B u' D F (d.fused x) ∧ UpS u u' F := by
  obtain ⟨L, T, v, f, rfl, h⟩ := h
  exact (kFuse h x hx).mono fun e u' ⟨he, hd, hu⟩ => ⟨he, ⟨L, T, v, f, rfl, hd⟩, hu.mono fun y hy => .inl (by simp_all)⟩
theorem kReadD (h : Dsk B u D F d) (i : Nat) (hi : i < d.lies.length) (hoff : d.off = false) (hm : d.pend.length ≤ 1000000000000) : Calls Try.prog 12 #[.pointer (some ⟨D, 0, none⟩), .int .i64 (i : Int)] u fun e u' =>
    e = .returned (.tuple #[.slice (some ⟨u.heap.size, 0, none⟩) 1024 1024, .int .i64 0]) ∧ u'.heap[u.heap.size]? = some (.cells (img (d.page i)) 5 (0, 0)) ∧ Below u.heap.size u u' ∧ u'.heap.size = u.heap.size + 1 := by
  obtain ⟨L, T, v, f, rfl, h⟩ := h
  exact kReadOk h i hi hoff hm
theorem kDurableD (h : Dsk B u D F d) : Calls Try.prog 18 #[.pointer (some ⟨D, 0, none⟩)] u fun e u' =>
    e = .returned (.slice (some ⟨u.heap.size, 0, none⟩) d.lies.length d.lies.length) ∧ u'.heap[u.heap.size]? = some (.cells (strs d.lies) 9 (0, 0)) ∧ Below u.heap.size u u' ∧ u'.heap.size = u.heap.size + 1 := by
  obtain ⟨L, T, v, f, rfl, h⟩ := h
  exact kDurable h
end
theorem conv_bytes (w : World) (s : ByteArray) : ∃ c W, (convert 9 28 (.string s)).run Try.prog w = .ok (.slice (some ⟨w.heap.size, 0, none⟩) s.size c) W ∧ W.rangeAt w.heap.size 0 (byteCells s.data.toList) ∧ Below w.heap.size w W ∧ W.heap.size = w.heap.size + 1 := by
  refine ⟨_, _, Lib.run_convert_string_bytes w 9 28 5 s Try.underlying9 Try.underlying28 Try.underlying5, fun j v hv => ?_, ⟨rfl, rfl, rfl, by rw [Lib.bytesWorld_size]; omega, fun k hk => Lib.bytesWorld_at_old w _ s k hk⟩, Lib.bytesWorld_size _ _ _⟩
  have hj : j < s.data.toList.length := by have := (List.getElem?_eq_some_iff.1 hv).1; rwa [byteCells_length] at this
  rw [Nat.zero_add, Lib.bytesWorld_cell w 5 s j (by simpa using hj), ← hv, bcells_at _ j hj, List.getD_eq_getElem?_getD, List.getElem?_eq_getElem hj]
  rfl
theorem size_mk (l : List UInt8) : (⟨l.toArray⟩ : ByteArray).size = l.length := by simp [ByteArray.size]
/-- a row of bytes at the head of its block -/
theorem row_range {u : World} {G : Nat} {l : List UInt8} {t : TypeId} (h : u.heap[G]? = some (.cells (img l) t (0, 0))) : u.rangeAt G 0 (byteCells l) := fun j v hv => by
  rw [Nat.zero_add, cell_of_row u G j _ _ _ h]
  simpa [img] using hv
theorem full_zero : full 0 = zeros 1024 := by
  apply List.ext_getElem
  · rw [full_len, zlen]
  · intro i h1 h2
    rw [zat]
    simp [full]
theorem settle1 (p q r : List UInt8) (hp : p.length = 1024) (hq : q.length = 1024) : (⟨[q, r], [(0, p)], false, -1⟩ : Dk).settle (fun _ => 1024) = ⟨[p, r], [], false, -1⟩ := by
  simp [Dk.settle, Dk.landed, List.take_of_length_le (Nat.le_of_eq hp), List.drop_of_length_le (Nat.le_of_eq hq)]
set_option maxRecDepth 100000 in
set_option maxHeartbeats 4000000 in
theorem wakes (u : World) : Calls Try.prog 28 #[] u fun e u' => e = .returned (.bool true) ∧ Below u.heap.size u u' := by
  obtain ⟨B, hB⟩ : ∃ B, B = u.heap.size := ⟨_, rfl⟩
  rw [← hB]
  have HB := hide hB
  have HLe : Hid (∀ w, Below B u w → B ≤ w.heap.size) := fun w h => by rw [hB]; exact h.size
  clear hB
  obtain ⟨p7, hp7⟩ : ∃ p, p = full 7 := ⟨_, rfl⟩
  obtain ⟨p9, hp9⟩ : ∃ p, p = full 9 := ⟨_, rfl⟩
  obtain ⟨p0, hp0⟩ : ∃ p, p = full 0 := ⟨_, rfl⟩
  have HP7 : Hid (p7.length = 1024) := by rw [hp7]; exact full_len _
  have HP9 : Hid (p9.length = 1024) := by rw [hp9]; exact full_len _
  have HP0 : Hid (p0.length = 1024) := by rw [hp0]; exact full_len _
  have HQ7 := hide (lPage 7)
  have HQ9 := hide (lPage 9)
  have HQ0 := hide (lPage 0)
  rw [← hp7] at HQ7
  rw [← hp9] at HQ9
  rw [← hp0] at HQ0
  have HN := hide (dNew 2 (by decide) (by decide) u)
  have hbl : Dk.blank 2 = ⟨[p0, p0], [], false, -1⟩ := by rw [hp0, full_zero]; rfl
  rw [hbl, ← unhide HB] at HN
  clear hp7 hp9 hp0 hbl
  go_enter Try.func28, Try.ntmps28
  go_wp2_with fail
  refine (unhide HN).mono ?_
  rintro e w1 ⟨D, F, rfl, hd, hb⟩
  have HD := hide hd
  have HBB := hide hb
  clear hd hb HN
  go_wp2_with fail
  refine (unhide HQ7 _).mono ?_
  rintro e w2 ⟨rfl, hx, hb, hs⟩
  have HD2 := hide ((unhide HD).below hb)
  have HB2 : Hid (Below B u w2) := (unhide HBB).trans (hb.mono (unhide HLe _ (unhide HBB)))
  have HX := hide hx
  have hFs : Hid (w1.heap.size ∉ F) := fun hx => by have := ((unhide HD).ge _ hx).2; omega
  clear hx hb hs HD HBB
  go_wp2_with fail
  refine (kWriteN (unhide HD2) (by have := (unhide HB2).size; have := unhide HB; omega) 0 _ 1024 1024 p7 (unhide HP7).symm (fun _ => ⟨_, 0, rfl, unhide hFs, row_range (unhide HX)⟩) (by show (0 : Nat) ≤ _; decide) (0, ⟨[p0, p0], [(0, p7)], false, -1⟩) (Dk.write_ok (d := ⟨[p0, p0], [], false, -1⟩) (n := 0) rfl (by show (-1 : Int) < 0; decide) (by show 0 < 2; decide) (unhide HP7))).mono ?_
  rintro e w3 ⟨rfl, F3, hd, hu, hs⟩
  have HD3 := hide hd
  have HB3 : Hid (Below B u w3) := (unhide HB2).trans (hu.below (unhide HLe _ (unhide HB2)) (fun k hk => ((unhide HD2).ge k hk).1))
  clear hd hu hs HD2 HB2 HX hFs
  go_wp2_with fail
  refine (kPendingD (unhide HD3)).mono ?_
  rintro e w4 ⟨rfl, hw⟩
  obtain rfl := hw.symm
  clear hw
  go_wp2_with fail
  refine (kSyncN (unhide HD3) (by show (1 : Nat) ≤ _; decide) (0, ⟨[p7, p0], [], false, -1⟩) (by rw [Dk.sync_ok rfl (by show (-1 : Int) < 0; decide), settle1 p7 p0 p0 (unhide HP7) (unhide HP0)])).mono ?_
  rintro e w5 ⟨rfl, F5, hd, hu, hs⟩
  have HD5 := hide hd
  have HB5 : Hid (Below B u w5) := (unhide HB3).trans (hu.below (unhide HLe _ (unhide HB3)) (fun k hk => ((unhide HD3).ge k hk).1))
  clear hd hu hs HD3 HB3
  go_wp2_with fail
  refine (unhide HQ9 _).mono ?_
  rintro e w6 ⟨rfl, hx, hb, hs⟩
  have HD6 := hide ((unhide HD5).below hb)
  have HB6 : Hid (Below B u w6) := (unhide HB5).trans (hb.mono (unhide HLe _ (unhide HB5)))
  have HX := hide hx
  have hFs : Hid (w5.heap.size ∉ F5) := fun hx => by have := ((unhide HD5).ge _ hx).2; omega
  clear hx hb hs HD5 HB5
  go_wp2_with fail
  refine (kWriteN (unhide HD6) (by have := (unhide HB6).size; have := unhide HB; omega) 1 _ 1024 1024 p9 (unhide HP9).symm (fun _ => ⟨_, 0, rfl, unhide hFs, row_range (unhide HX)⟩) (by show (0 : Nat) ≤ _; decide) (0, ⟨[p7, p0], [(1, p9)], false, -1⟩) (Dk.write_ok (d := ⟨[p7, p0], [], false, -1⟩) (n := 1) rfl (by show (-1 : Int) < 0; decide) (by show 1 < 2; decide) (unhide HP9))).mono ?_
  rintro e w7 ⟨rfl, F7, hd, hu, hs⟩
  have HD7 := hide hd
  have HB7 : Hid (Below B u w7) := (unhide HB6).trans (hu.below (unhide HLe _ (unhide HB6)) (fun k hk => ((unhide HD6).ge k hk).1))
  clear hd hu hs HD6 HB6 HX hFs
  go_wp2_with fail
  have HRD := hide (kReadD (unhide HD7) 1 (by show 1 < 2; decide) rfl (by show (1 : Nat) ≤ _; decide))
  refine (unhide HRD).mono ?_
  rintro e w8 ⟨rfl, hx, hb, hs⟩
  obtain ⟨RB, hRB⟩ : ∃ RB, RB = w7.heap.size := ⟨_, rfl⟩
  rw [← hRB] at hx
  have HD8 := hide ((unhide HD7).below hb)
  have HB8 : Hid (Below B u w8) := (unhide HB7).trans (hb.mono (unhide HLe _ (unhide HB7)))
  have HX8 : Hid (w8.heap[RB]? = some (.cells (img p9) 5 (0, 0))) := hx
  clear hx hb hs HD7 HB7 HRD
  rw [← hRB]
  clear hRB
  go_wp2_with fail
  refine (kDurableD (unhide HD8)).mono ?_
  rintro e w9 ⟨rfl, hx, hb, hs⟩
  obtain ⟨LB, hLB⟩ : ∃ LB, LB = w8.heap.size := ⟨_, rfl⟩
  rw [← hLB] at hx
  obtain ⟨P7, hP7⟩ : ∃ P : ByteArray, P = ⟨p7.toArray⟩ := ⟨_, rfl⟩
  obtain ⟨P9, hP9⟩ : ∃ P : ByteArray, P = ⟨p9.toArray⟩ := ⟨_, rfl⟩
  obtain ⟨P0, hP0⟩ : ∃ P : ByteArray, P = ⟨p0.toArray⟩ := ⟨_, rfl⟩
  have hl0 : w9.cell? ⟨LB, 0, none⟩ = some (.string P7) := by rw [cell_of_row w9 LB 0 _ _ _ hx, hP7]; rfl
  have hl1 : w9.cell? ⟨LB, 1, none⟩ = some (.string P0) := by rw [cell_of_row w9 LB 1 _ _ _ hx, hP0]; rfl
  have hr9 : w9.heap[RB]? = some (.cells (img p9) 5 (0, 0)) := (hb.block RB (Array.getElem?_eq_some_iff.1 (unhide HX8)).1).trans (unhide HX8)
  have HCV : Hid (∀ W : World, W.heap[RB]? = some (.cells (img p9) 5 (0, 0)) → (convert 28 9 (.slice (some ⟨RB, 0, none⟩) 1024 1024)).run Try.prog W = .ok (.string P9) W) := fun W hW => by rw [hP9]; exact conv_range (row_range hW) 1024 1024 (unhide HP9).symm
  have HF9 : Hid (∀ (W : World) (G : Nat), W.heap[G]? = some (.cells (img p9) 5 (0, 0)) → (convert 28 9 (.slice (some ⟨G, 0, none⟩) 1024 1024)).run Try.prog W = .ok (.string P9) W) := fun W G hW => by rw [hP9]; exact conv_range (row_range hW) 1024 1024 (unhide HP9).symm
  have HF7 : Hid (∀ (W : World) (G : Nat), W.heap[G]? = some (.cells (img p7) 5 (0, 0)) → (convert 28 9 (.slice (some ⟨G, 0, none⟩) 1024 1024)).run Try.prog W = .ok (.string P7) W) := fun W G hW => by rw [hP7]; exact conv_range (row_range hW) 1024 1024 (unhide HP7).symm
  have HF0 : Hid (∀ (W : World) (G : Nat), W.heap[G]? = some (.cells (img p0) 5 (0, 0)) → (convert 28 9 (.slice (some ⟨G, 0, none⟩) 1024 1024)).run Try.prog W = .ok (.string P0) W) := fun W G hW => by rw [hP0]; exact conv_range (row_range hW) 1024 1024 (unhide HP0).symm
  have HB9 : Hid (Below B u w9) := (unhide HB8).trans (hb.mono (unhide HLe _ (unhide HB8)))
  have hll : (⟨[p7, p0], [(1, p9)], false, -1⟩ : Dk).lies.length = 2 := rfl
  rw [hll, ← hLB]
  clear hx hb hs HD8 HB8 HX8 hLB hP7 hP9 hP0 hll
  have HST : Hid (∀ W0 : World, (W0.heap[RB]? = some (.cells (img p9) 5 (0, 0)) ∧ (W0.cell? ⟨LB, 0, none⟩ = some (.string P7) ∧ W0.cell? ⟨LB, 1, none⟩ = some (.string P0)) ∧ Below B u W0) → ∀ W1 : World, Below W0.heap.size W0 W1 →
      (W1.heap[RB]? = some (.cells (img p9) 5 (0, 0)) ∧ (W1.cell? ⟨LB, 0, none⟩ = some (.string P7) ∧ W1.cell? ⟨LB, 1, none⟩ = some (.string P0)) ∧ Below B u W1)) := by
    rintro W0 ⟨a1, ⟨a2, a3⟩, a4⟩ W1 hb
    exact ⟨(hb.block RB (Array.getElem?_eq_some_iff.1 a1).1).trans a1, ⟨(hb.cell (World.block_lt_of_cell? W0 _ a2)).trans a2, (hb.cell (World.block_lt_of_cell? W0 _ a3)).trans a3⟩, a4.trans (hb.mono (unhide HLe _ a4))⟩
  go_wp2_with fail
  refine wp_region_last (fun u' => u'.heap[RB]? = some (.cells (img p9) 5 (0, 0)) ∧ (u'.cell? ⟨LB, 0, none⟩ = some (.string P7) ∧ u'.cell? ⟨LB, 1, none⟩ = some (.string P0)) ∧ Below B u u') 30 (by kernel_rfl) ⟨hr9, ⟨hl0, hl1⟩, belowDrew (unhide HB9)⟩ fun hS => ?_
  refine wpAnyL_take 0 45 (.int .i64 0) [] rfl rfl (by kernel_rfl) (by kernel_rfl) (by kernel_rfl) (by kernel_rfl) (by kernel_rfl) (fun _ _ _ h => h) (by rfl) (fun u _ => by go_simp) hS ?_
  simp only [Act.put, List.setIfInBounds_toArray, List.set_cons_zero, List.set_cons_succ]
  refine wpAnyL_take 1 46 (.bool true) [] rfl rfl (by kernel_rfl) (by kernel_rfl) (by kernel_rfl) (by kernel_rfl) (by kernel_rfl) (fun _ _ _ h => h) (by rfl) (fun u _ => by go_simp) hS ?_
  simp only [Act.put, List.setIfInBounds_toArray, List.set_cons_zero, List.set_cons_succ]
  refine wpAnyL_take 2 47 (.bool true) [] rfl rfl (by kernel_rfl) (by kernel_rfl) (by kernel_rfl) (by kernel_rfl) (by kernel_rfl) (fun _ _ _ h => h) (by rfl) (fun u _ => by go_simp) hS ?_
  simp only [Act.put, List.setIfInBounds_toArray, List.set_cons_zero, List.set_cons_succ]
  refine wpAnyL_take 3 48 (.slice (some ⟨RB, 0, none⟩) 1024 1024) [] rfl rfl (by kernel_rfl) (by kernel_rfl) (by kernel_rfl) (by kernel_rfl) (by kernel_rfl) (fun _ _ _ h => h) (by rfl) (fun u _ => by go_simp) hS ?_
  simp only [Act.put, List.setIfInBounds_toArray, List.set_cons_zero, List.set_cons_succ]
  refine wpAnyL_take 4 49 (.string P9) [] rfl rfl (by kernel_rfl) (by kernel_rfl) (by kernel_rfl) (by kernel_rfl) (by kernel_rfl) (fun _ _ _ h => h) (by rfl) (fun u hu => by obtain ⟨s1, s2, s3⟩ := hu; show Sem.run _ (do pure (Next.value (← convert 28 9 (.slice (some ⟨RB, 0, none⟩) 1024 1024)))) u = _; simp only [Sem.run_bind, unhide HCV u s1, Result.andThen_ok, Sem.run_pure]) hS ?_
  simp only [Act.put, List.setIfInBounds_toArray, List.set_cons_zero, List.set_cons_succ]
  refine wpAnyL_one (i := 5) (by kernel_rfl) rfl (by rfl) fun K hK => ?_
  go_simp
  refine (unhide HQ9 _).mono ?_
  rintro e W5 ⟨rfl, hx, hb, hs⟩
  have hS1 := unhide HST _ hS W5 hb
  refine hK _ _ (fun _ => hS1) ?_
  clear hK K hS
  have hS := hS1
  clear hS1
  refine wpAnyL_one (i := 6) (by kernel_rfl) rfl (by rfl) fun K hK => ?_
  refine wp_val (.string P9) (by
    show Sem.run _ (do pure (Next.value (← convert 28 9 (.slice (some ⟨_, 0, none⟩) 1024 1024)))) _ = _
    simp only [Sem.run_bind, unhide HF9 _ _ hx, Result.andThen_ok, Sem.run_pure]) (some 51) (by rfl) ?_
  refine hK _ _ (fun _ => hS) ?_
  clear hK K hx hb hs
  simp only [Act.put, List.setIfInBounds_toArray, List.set_cons_zero, List.set_cons_succ]
  refine wpAnyL_take 7 52 (.bool true) [] rfl rfl (by kernel_rfl) (by kernel_rfl) (by kernel_rfl) (by kernel_rfl) (by kernel_rfl) (fun _ _ _ h => h) (by rfl) (fun u _ => by go_simp) hS ?_
  simp only [Act.put, List.setIfInBounds_toArray, List.set_cons_zero, List.set_cons_succ]
  refine wpAnyL_take 8 53 (.bool true) [] rfl rfl (by kernel_rfl) (by kernel_rfl) (by kernel_rfl) (by kernel_rfl) (by kernel_rfl) (fun _ _ _ h => h) (by rfl) (fun u _ => by go_simp) hS ?_
  simp only [Act.put, List.setIfInBounds_toArray, List.set_cons_zero, List.set_cons_succ]
  refine wpAnyL_take 9 54 (.bool true) [] rfl rfl (by kernel_rfl) (by kernel_rfl) (by kernel_rfl) (by kernel_rfl) (by kernel_rfl) (fun _ _ _ h => h) (by rfl) (fun u _ => by go_simp) hS ?_
  simp only [Act.put, List.setIfInBounds_toArray, List.set_cons_zero, List.set_cons_succ]
  refine wpAnyL_take 10 55 (.slice (some ⟨LB, 0, none⟩) 2 2) [] rfl rfl (by kernel_rfl) (by kernel_rfl) (by kernel_rfl) (by kernel_rfl) (by kernel_rfl) (fun _ _ _ h => h) (by rfl) (fun u _ => by go_simp) hS ?_
  simp only [Act.put, List.setIfInBounds_toArray, List.set_cons_zero, List.set_cons_succ]
  refine wpAnyL_take 11 56 (.int .i64 2) [] rfl rfl (by kernel_rfl) (by kernel_rfl) (by kernel_rfl) (by kernel_rfl) (by kernel_rfl) (fun _ _ _ h => h) (by rfl) (fun u _ => by go_simp) hS ?_
  simp only [Act.put, List.setIfInBounds_toArray, List.set_cons_zero, List.set_cons_succ]
  refine wpAnyL_take 12 57 (.bool true) [] rfl rfl (by kernel_rfl) (by kernel_rfl) (by kernel_rfl) (by kernel_rfl) (by kernel_rfl) (fun _ _ _ h => h) (by rfl) (fun u _ => by go_simp) hS ?_
  simp only [Act.put, List.setIfInBounds_toArray, List.set_cons_zero, List.set_cons_succ]
  refine wpAnyL_take 13 58 (.bool true) [] rfl rfl (by kernel_rfl) (by kernel_rfl) (by kernel_rfl) (by kernel_rfl) (by kernel_rfl) (fun _ _ _ h => h) (by rfl) (fun u _ => by go_simp) hS ?_
  simp only [Act.put, List.setIfInBounds_toArray, List.set_cons_zero, List.set_cons_succ]
  refine wpAnyL_take 14 59 (.bool true) [] rfl rfl (by kernel_rfl) (by kernel_rfl) (by kernel_rfl) (by kernel_rfl) (by kernel_rfl) (fun _ _ _ h => h) (by rfl) (fun u _ => by go_simp) hS ?_
  simp only [Act.put, List.setIfInBounds_toArray, List.set_cons_zero, List.set_cons_succ]
  refine wpAnyL_take 15 60 (.slice (some ⟨LB, 0, none⟩) 2 2) [] rfl rfl (by kernel_rfl) (by kernel_rfl) (by kernel_rfl) (by kernel_rfl) (by kernel_rfl) (fun _ _ _ h => h) (by rfl) (fun u _ => by go_simp) hS ?_
  simp only [Act.put, List.setIfInBounds_toArray, List.set_cons_zero, List.set_cons_succ]
  refine wpAnyL_take 16 61 (.pointer (some ⟨LB, 0, none⟩)) [] rfl rfl (by kernel_rfl) (by kernel_rfl) (by kernel_rfl) (by kernel_rfl) (by kernel_rfl) (fun _ _ _ h => h) (by rfl) (fun u _ => by go_simp) hS ?_
  simp only [Act.put, List.setIfInBounds_toArray, List.set_cons_zero, List.set_cons_succ]
  refine wpAnyL_take 17 62 (.string P7) [] rfl rfl (by kernel_rfl) (by kernel_rfl) (by kernel_rfl) (by kernel_rfl) (by kernel_rfl) (fun _ _ _ h => h) (by rfl) (fun u hu => by obtain ⟨s1, s2, s3⟩ := hu; go_simp) hS ?_
  simp only [Act.put, List.setIfInBounds_toArray, List.set_cons_zero, List.set_cons_succ]
  refine wpAnyL_one (i := 18) (by kernel_rfl) rfl (by rfl) fun K hK => ?_
  go_simp
  refine (unhide HQ7 _).mono ?_
  rintro e W18 ⟨rfl, hx, hb, hs⟩
  have hS1 := unhide HST _ hS W18 hb
  refine hK _ _ (fun _ => hS1) ?_
  clear hK K hS
  have hS := hS1
  clear hS1
  refine wpAnyL_one (i := 19) (by kernel_rfl) rfl (by rfl) fun K hK => ?_
  refine wp_val (.string P7) (by
    show Sem.run _ (do pure (Next.value (← convert 28 9 (.slice (some ⟨_, 0, none⟩) 1024 1024)))) _ = _
    simp only [Sem.run_bind, unhide HF7 _ _ hx, Result.andThen_ok, Sem.run_pure]) (some 64) (by rfl) ?_
  refine hK _ _ (fun _ => hS) ?_
  clear hK K hx hb hs
  simp only [Act.put, List.setIfInBounds_toArray, List.set_cons_zero, List.set_cons_succ]
  refine wpAnyL_take 20 65 (.bool true) [] rfl rfl (by kernel_rfl) (by kernel_rfl) (by kernel_rfl) (by kernel_rfl) (by kernel_rfl) (fun _ _ _ h => h) (by rfl) (fun u _ => by go_simp) hS ?_
  simp only [Act.put, List.setIfInBounds_toArray, List.set_cons_zero, List.set_cons_succ]
  refine wpAnyL_take 21 66 (.bool true) [] rfl rfl (by kernel_rfl) (by kernel_rfl) (by kernel_rfl) (by kernel_rfl) (by kernel_rfl) (fun _ _ _ h => h) (by rfl) (fun u _ => by go_simp) hS ?_
  simp only [Act.put, List.setIfInBounds_toArray, List.set_cons_zero, List.set_cons_succ]
  refine wpAnyL_take 22 67 (.bool true) [] rfl rfl (by kernel_rfl) (by kernel_rfl) (by kernel_rfl) (by kernel_rfl) (by kernel_rfl) (fun _ _ _ h => h) (by rfl) (fun u _ => by go_simp) hS ?_
  simp only [Act.put, List.setIfInBounds_toArray, List.set_cons_zero, List.set_cons_succ]
  refine wpAnyL_take 23 68 (.slice (some ⟨LB, 0, none⟩) 2 2) [] rfl rfl (by kernel_rfl) (by kernel_rfl) (by kernel_rfl) (by kernel_rfl) (by kernel_rfl) (fun _ _ _ h => h) (by rfl) (fun u _ => by go_simp) hS ?_
  simp only [Act.put, List.setIfInBounds_toArray, List.set_cons_zero, List.set_cons_succ]
  refine wpAnyL_take 24 69 (.pointer (some ⟨LB, 1, none⟩)) [] rfl rfl (by kernel_rfl) (by kernel_rfl) (by kernel_rfl) (by kernel_rfl) (by kernel_rfl) (fun _ _ _ h => h) (by rfl) (fun u _ => by go_simp) hS ?_
  simp only [Act.put, List.setIfInBounds_toArray, List.set_cons_zero, List.set_cons_succ]
  refine wpAnyL_take 25 70 (.string P0) [] rfl rfl (by kernel_rfl) (by kernel_rfl) (by kernel_rfl) (by kernel_rfl) (by kernel_rfl) (fun _ _ _ h => h) (by rfl) (fun u hu => by obtain ⟨s1, s2, s3⟩ := hu; go_simp) hS ?_
  simp only [Act.put, List.setIfInBounds_toArray, List.set_cons_zero, List.set_cons_succ]
  refine wpAnyL_one (i := 26) (by kernel_rfl) rfl (by rfl) fun K hK => ?_
  go_simp
  refine (unhide HQ0 _).mono ?_
  rintro e W26 ⟨rfl, hx, hb, hs⟩
  have hS1 := unhide HST _ hS W26 hb
  refine hK _ _ (fun _ => hS1) ?_
  clear hK K hS
  have hS := hS1
  clear hS1
  refine wpAnyL_one (i := 27) (by kernel_rfl) rfl (by rfl) fun K hK => ?_
  refine wp_val (.string P0) (by
    show Sem.run _ (do pure (Next.value (← convert 28 9 (.slice (some ⟨_, 0, none⟩) 1024 1024)))) _ = _
    simp only [Sem.run_bind, unhide HF0 _ _ hx, Result.andThen_ok, Sem.run_pure]) (some 72) (by rfl) ?_
  refine hK _ _ (fun _ => hS) ?_
  clear hK K hx hb hs
  simp only [Act.put, List.setIfInBounds_toArray, List.set_cons_zero, List.set_cons_succ]
  refine wpAnyL_take 28 73 (.bool true) [] rfl rfl (by kernel_rfl) (by kernel_rfl) (by kernel_rfl) (by kernel_rfl) (by kernel_rfl) (fun _ _ _ h => h) (by rfl) (fun u _ => by go_simp) hS ?_
  simp only [Act.put, List.setIfInBounds_toArray, List.set_cons_zero, List.set_cons_succ]
  refine wpAnyL_take 29 74 (.bool true) [] rfl rfl (by kernel_rfl) (by kernel_rfl) (by kernel_rfl) (by kernel_rfl) (by kernel_rfl) (fun _ _ _ h => h) (by rfl) (fun u _ => by go_simp) hS ?_
  simp only [Act.put, List.setIfInBounds_toArray, List.set_cons_zero, List.set_cons_succ]
  refine wpAnyL_one (i := 30) (by kernel_rfl) rfl (by rfl) fun K hK => ?_
  refine wp_val (.bool true) (by go_simp) (some 0) (by rfl) ?_
  refine hK _ _ (fun h => absurd rfl h) ?_
  clear hK K
  simp only [Act.put, List.setIfInBounds_toArray, List.set_cons_zero]
  refine wpAnyL_done (by kernel_rfl) ?_ _
  go_wp2
  go_ret
  exact ⟨rfl, hS.2.2⟩
end Go.Proofs.Ytfdibmbffmgikaa
