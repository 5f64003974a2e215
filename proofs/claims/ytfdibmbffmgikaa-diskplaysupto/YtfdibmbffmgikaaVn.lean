/- The document's disk: Copy, of a disk on which nothing is pending. -/
import Derived.Test.YtfdibmbffmgikaaVm
namespace Go.Proofs.Ytfdibmbffmgikaa
open Go.RowKit Go.Lib

section
variable {P : Program} {ops : Array Oper} {Q : Exit → Act → World → Prop} {md : Region.Mode} {S : World → Prop} {last : Nat}
theorem wpAnyL_two {i j : Nat} {o o' : Oper} {fuel : Nat} {listed : Array Bool} {a : Act} {w : World} (hr : Region.ready md ops listed = [i, j]) (ho : ops[i]? = some o) (ho' : ops[j]? = some o') (hg : Region.wanted o (yielded ops a.tmps) = true) (hg' : Region.wanted o' (yielded ops a.tmps) = true)
    (h : ∀ K : Act → World → Prop, (∀ a w, (i ≠ last → S w) → wpAnyL P md ops Q S last fuel (listed.setIfInBounds i true) a w → K a w) → Oper.wp P o a w K Q)
    (h' : ∀ K : Act → World → Prop, (∀ a w, (j ≠ last → S w) → wpAnyL P md ops Q S last fuel (listed.setIfInBounds j true) a w → K a w) → Oper.wp P o' a w K Q) : wpAnyL P md ops Q S last (fuel + 1) listed a w := by
  refine ⟨fun h0 => absurd (hr ▸ h0) (by simp), ?_⟩
  rw [hr]
  intro k hk
  rcases List.mem_cons.1 hk with rfl | hk
  · refine wpOp_step ho fun K hK => ?_
    rw [if_pos hg]
    exact h K fun a w hs hw => hK a w ⟨hs, hw⟩
  · obtain rfl : k = j := by simpa using hk
    refine wpOp_step ho' fun K hK => ?_
    rw [if_pos hg']
    exact h' K fun a w hs hw => hK a w ⟨hs, hw⟩
end
theorem wp_box_row {P : Program} {o : Oper} {a : Act} {w : World} {K : Act → World → Prop} {Q : Exit → Act → World → Prop} (t : TypeId) (x : Operand) (ho : o.op = .box t x) (d : Option Tmp) (hd : o.dst = d)
    (N : Nat) (hN : w.heap.size = N) (cells : Array Value) (hx : (a.eval x).cells = cells)
    (h : ∀ w', Hid (w'.heap[N]? = some (.cells cells t (0, 0))) → Hid (Below N w w') → Hid (w'.heap.size = N + 1) → K (a.put d (.pointer (some ⟨N, 0, none⟩))) w') : o.wp P a w K Q := by
  subst hN
  subst hd hx
  unfold Oper.wp execOp
  simp only [ho, Sem.run_bind, Instr.box, newVar, newRow, run_newObj_alloc, Sem.run_pure, Result.andThen_ok]
  exact h _ (heap_alloc_new _ _) ((Below.refl _ _).alloc (Nat.le_refl _) _) (hide (by simp))
theorem bs0 (W : World) : (Instr.buildSlice 36 0 #[]).run Try.prog W = .ok (.slice (some ⟨W.heap.size, 0, none⟩) 0 0) (W.alloc (.cells #[] 9)) := by kernel_rfl
theorem bs6 (W : World) : (Instr.buildSlice 81 0 #[]).run Try.prog W = .ok (.slice (some ⟨W.heap.size, 0, none⟩) 0 0) (W.alloc (.cells #[] 95)) := by kernel_rfl
theorem copyAt (W : World) (U R g c n : Nat) (xs : List Value) (hn : xs.length = n) (h0 : n ≤ 4096) (hU : U ≤ W.heap.size) (hR : W.ownsRow U 9 1 (.slice (some ⟨R, 0, none⟩) 0 0) 0 []) (hx : ∀ y ∈ xs, ∃ s, y = .string s) (hc : ∀ (j : Nat) (y : Value), xs[j]? = some y → W.cell? ⟨g, j, none⟩ = some y) :
    ∃ v' W', (Builtin.append_ #[36, 36] 36 #[.slice (some ⟨R, 0, none⟩) 0 0, .slice (some ⟨g, 0, none⟩) n c]).run Try.prog W = .ok v' W' ∧ W'.ownsRow U 9 1 v' n xs ∧ W.grownBy W' (some R) ∧ (v'.ownBlock = some R ∨ ∃ g, v'.ownBlock = some g ∧ W.heap.size ≤ g) := by
  obtain ⟨i0, hi, hz0, hz1, hz2⟩ := info_parts infoStr
  obtain ⟨v', W', hr, ho, hg', hnw⟩ := run_append_own' (P := Try.prog) W U 36 36 9 i0 (.string .empty) 1 16 Try.underlying36 hi hz0 hz1 hz2 rfl (by decide) _ 0 [] hR ⟨g, 0, none⟩ n c xs (by rw [hn, Nat.mul_one]) (fun j x hx => by rw [Addr.add_mid, Nat.zero_add]; exact hc j x hx) (fun x hx' => by obtain ⟨s, rfl⟩ := hx x hx'; rfl) (by simp only [maxLen]; omega) (by omega) hU
  rw [Nat.zero_add, List.nil_append] at ho
  exact ⟨v', W', hr, ho, hg', hnw⟩
theorem own_empty {W : World} {U R : Nat} {t : TypeId} {s : Nat} (h : W.heap[R]? = some (.cells #[] t (0, 0))) (hU : U ≤ R) : W.ownsRow U t s (.slice (some ⟨R, 0, none⟩) 0 0) 0 [] :=
  ⟨by simp, .inr ⟨R, 0, #[], rfl, hU, h, Nat.le_refl _, by decide, by simp, by simp⟩⟩
theorem rwInfo2 : (Try.prog.info? 95).isSome = true := by kernel_rfl
theorem appNone (W : World) (R : Nat) : (Builtin.append_ #[81, 81] 81 #[.slice (some ⟨R, 0, none⟩) 0 0, .slice none 0 0]).run Try.prog W = .ok (.slice (some ⟨R, 0, none⟩) 0 0) W := by
  obtain ⟨i0, hi, _, _, _⟩ := info_parts rwInfo
  exact append_nothing _ _ _ _ Try.underlying81 hi _ 0 0 0 none (Nat.le_refl _)
/-- what the two lists of a copy are, behind the region's four operations -/
def CopyS (U : Nat) (u W : World) (v : Value) (R n : Nat) (xs : List Value) : Prop := W.ownsRow U 9 1 v n xs ∧ W.heap[R]? = some (.cells #[] 95 (0, 0)) ∧ U ≤ R ∧ v.ownBlock ≠ some R ∧ Below U u W
theorem copy_done {U R n c : Nat} {u W WZ : World} {ao : Option Addr} {xs : List Value} {off : Bool} {fu : Int} {d : Dk} (hd : n = d.lies.length ∧ xs = d.lies.map str ∧ off = d.off ∧ fu = d.fuse ∧ d.pend = [] ∧ d.Ok) (hc : CopyS U u W (.slice ao n c) R n xs)
    (hx : WZ.heap[W.heap.size]? = some (.cells #[.slice ao n c, .slice (some ⟨R, 0, none⟩) 0 0, .bool off, .int .i64 fu] 83 (0, 0))) (hb : Below W.heap.size W WZ) (hU : U ≤ W.heap.size) (hB : Below U u WZ) :
    ∃ M' F', Ending.returned (.pointer (some ⟨W.heap.size, 0, none⟩)) = .returned (.pointer (some ⟨M', 0, none⟩)) ∧ Rk U WZ M' F' d ∧ Below U u WZ := by
  obtain ⟨rfl, rfl, rfl, rfl, hp, ok⟩ := hd
  obtain ⟨h1, h2, h3, h4, h5⟩ := hc
  have hRlt := (Array.getElem?_eq_some_iff.1 h2).1
  refine ⟨W.heap.size, _, rfl, ⟨_, .slice (some ⟨R, 0, none⟩) 0 0, rfl, ⟨hx, ownsRow_keep h1 fun k hk => hb.block k (h1.lt k hk).2, ?_, hU, fun e => ?_, fun e => ?_, fun k hk e => ?_, ok⟩⟩, hB⟩
  · rw [hp]
    exact own_empty ((hb.block R hRlt).trans h2) h3
  · have := (h1.lt _ e).2; omega
  · simp [Value.ownBlock] at e; omega
  · simp [Value.ownBlock] at e; exact h4 (e ▸ hk)
section
variable {B : Nat} {u : World} {M : Nat} {F : List Nat} {d : Dk}
set_option maxRecDepth 100000 in
set_option maxHeartbeats 16000000 in
theorem rCopyX {v1 : Value} (h : RkX B u M v1 (.slice none 0 0) d) (hp : d.pend = []) : Calls Try.prog 21 #[.pointer (some ⟨M, 0, none⟩)] u fun e u' => ∃ M' F', e = .returned (.pointer (some ⟨M', 0, none⟩)) ∧ Rk u.heap.size u' M' F' d ∧ Below u.heap.size u u' := by
  obtain ⟨U, hU⟩ : ∃ U, U = u.heap.size := ⟨_, rfl⟩
  rw [← hU]
  have HU := hide hU
  have HLU : Hid (∀ w, Below U u w → U ≤ w.heap.size) := fun w hb => by rw [hU]; exact hb.size
  obtain ⟨g, c, hv, hl0, _⟩ := h.lie_at 0 h.ok.pos
  subst hv
  obtain ⟨n, hn⟩ : ∃ n, n = d.lies.length := ⟨_, rfl⟩
  obtain ⟨xs, hxs⟩ : ∃ xs, xs = d.lies.map str := ⟨_, rfl⟩
  obtain ⟨off, hoff⟩ : ∃ z, z = d.off := ⟨_, rfl⟩
  obtain ⟨fu, hfu⟩ : ∃ z, z = d.fuse := ⟨_, rfl⟩
  have HD : Hid (n = d.lies.length ∧ xs = d.lies.map str ∧ off = d.off ∧ fu = d.fuse ∧ d.pend = [] ∧ d.Ok) := ⟨hn, hxs, hoff, hfu, hp, h.ok⟩
  have HXN : Hid (xs.length = n ∧ n ≤ 4096 ∧ ∀ y ∈ xs, ∃ s, y = .string s) := ⟨by rw [hxs, hn, List.length_map], by rw [hn]; exact h.ok.max, fun y hy => by rw [hxs] at hy; obtain ⟨b, _, rfl⟩ := List.mem_map.1 hy; exact ⟨_, rfl⟩⟩
  have k0 := h.c0
  have k1 := h.c1
  have k2 := h.c2
  have k3 := h.c3
  rw [← hn] at k0
  rw [← hoff] at k2
  rw [← hfu] at k3
  have hMlt := h.lt_of
  have HCL : Hid (∀ z, Below U u z → z.cell? ⟨M, 0, none⟩ = some (.slice (some ⟨g, 0, none⟩) n c) ∧ z.cell? ⟨M, 1, none⟩ = some (.slice none 0 0) ∧ z.cell? ⟨M, 2, none⟩ = some (.bool off) ∧ z.cell? ⟨M, 3, none⟩ = some (.int .i64 fu)) := fun z hb => by
    rw [hU] at hb
    exact ⟨(hb.cell (p := ⟨M, 0, none⟩) hMlt).trans k0, (hb.cell (p := ⟨M, 1, none⟩) hMlt).trans k1, (hb.cell (p := ⟨M, 2, none⟩) hMlt).trans k2, (hb.cell (p := ⟨M, 3, none⟩) hMlt).trans k3⟩
  have HCX : Hid (∀ z, Below U u z → ∀ (j : Nat) (y : Value), xs[j]? = some y → z.cell? ⟨g, j, none⟩ = some y) := fun z hb j y hy => by
    have hj : j < d.lies.length := by have := (List.getElem?_eq_some_iff.1 hy).1; rw [hxs] at this; simpa using this
    obtain ⟨g2, c2, e1, e2, _⟩ := h.lie_at j hj
    obtain ⟨rfl, rfl⟩ : g = g2 ∧ c = c2 := by simpa using e1
    rw [hU] at hb
    rw [hb.cell (p := ⟨g, j, none⟩) (World.block_lt_of_cell? u _ e2), e2, ← hy, hxs]
    simp [hj, List.getD]
  have hbs0 := bs0
  have hbs6 := bs6
  have HB0 : Hid (Below U u u.drew) := by rw [hU]; exact ⟨rfl, rfl, rfl, Nat.le_refl _, fun _ _ => rfl⟩
  clear h hl0 hn hxs hoff hfu hp k0 k1 k2 k3 hMlt hU
  go_enter Try.func21, Try.ntmps21
  go_wp2_with fail
  refine wp_region_last (fun z => Below U u z) 22 (by kernel_rfl) (unhide HB0) fun hS => ?_
  clear hS
  have hS := unhide HB0
  generalize u.drew = w0 at *
  have HBw0 := hide hS
  refine wpAnyL_take 1 4 (.pointer (some ⟨M, 0, none⟩)) [] rfl rfl (by kernel_rfl) (by kernel_rfl) (by kernel_rfl) (by kernel_rfl) (by kernel_rfl) (fun _ _ _ h => h) (by rfl) (fun u _ => by go_simp) hS ?_
  simp only [Act.put, List.setIfInBounds_toArray, List.set_cons_zero, List.set_cons_succ]
  refine wpAnyL_take 2 5 (.pointer (some ⟨M, 0, none⟩)) [] rfl rfl (by kernel_rfl) (by kernel_rfl) (by kernel_rfl) (by kernel_rfl) (by kernel_rfl) (fun _ _ _ h => h) (by rfl) (fun u _ => by go_simp) hS ?_
  simp only [Act.put, List.setIfInBounds_toArray, List.set_cons_zero, List.set_cons_succ]
  refine wpAnyL_take 3 6 (.pointer (some ⟨M, 0, none⟩)) [] rfl rfl (by kernel_rfl) (by kernel_rfl) (by kernel_rfl) (by kernel_rfl) (by kernel_rfl) (fun _ _ _ h => h) (by rfl) (fun u _ => by go_simp) hS ?_
  simp only [Act.put, List.setIfInBounds_toArray, List.set_cons_zero, List.set_cons_succ]
  refine wpAnyL_take 4 7 (.slice (some ⟨g, 0, none⟩) n c) [] rfl rfl (by kernel_rfl) (by kernel_rfl) (by kernel_rfl) (by kernel_rfl) (by kernel_rfl) (fun _ _ _ h => h) (by rfl) (fun z hz => by have s0 := (unhide HCL) z hz; obtain ⟨s1, s2, s3, s4⟩ := s0; go_simp) hS ?_
  simp only [Act.put, List.setIfInBounds_toArray, List.set_cons_zero, List.set_cons_succ]
  refine wpAnyL_take 7 10 (.pointer (some ⟨M, 0, none⟩)) [] rfl rfl (by kernel_rfl) (by kernel_rfl) (by kernel_rfl) (by kernel_rfl) (by kernel_rfl) (fun _ _ _ h => h) (by rfl) (fun u _ => by go_simp) hS ?_
  simp only [Act.put, List.setIfInBounds_toArray, List.set_cons_zero, List.set_cons_succ]
  refine wpAnyL_take 8 11 (.pointer (some ⟨M, 0, none⟩)) [] rfl rfl (by kernel_rfl) (by kernel_rfl) (by kernel_rfl) (by kernel_rfl) (by kernel_rfl) (fun _ _ _ h => h) (by rfl) (fun u _ => by go_simp) hS ?_
  simp only [Act.put, List.setIfInBounds_toArray, List.set_cons_zero, List.set_cons_succ]
  refine wpAnyL_take 9 12 (.pointer (some ⟨M, 1, none⟩)) [] rfl rfl (by kernel_rfl) (by kernel_rfl) (by kernel_rfl) (by kernel_rfl) (by kernel_rfl) (fun _ _ _ h => h) (by rfl) (fun u _ => by go_simp) hS ?_
  simp only [Act.put, List.setIfInBounds_toArray, List.set_cons_zero, List.set_cons_succ]
  refine wpAnyL_take 10 13 (.slice none 0 0) [] rfl rfl (by kernel_rfl) (by kernel_rfl) (by kernel_rfl) (by kernel_rfl) (by kernel_rfl) (fun _ _ _ h => h) (by rfl) (fun z hz => by have s0 := (unhide HCL) z hz; obtain ⟨s1, s2, s3, s4⟩ := s0; go_simp) hS ?_
  simp only [Act.put, List.setIfInBounds_toArray, List.set_cons_zero, List.set_cons_succ]
  refine wpAnyL_take 12 15 (.pointer (some ⟨M, 0, none⟩)) [] rfl rfl (by kernel_rfl) (by kernel_rfl) (by kernel_rfl) (by kernel_rfl) (by kernel_rfl) (fun _ _ _ h => h) (by rfl) (fun u _ => by go_simp) hS ?_
  simp only [Act.put, List.setIfInBounds_toArray, List.set_cons_zero, List.set_cons_succ]
  refine wpAnyL_take 13 16 (.pointer (some ⟨M, 0, none⟩)) [] rfl rfl (by kernel_rfl) (by kernel_rfl) (by kernel_rfl) (by kernel_rfl) (by kernel_rfl) (fun _ _ _ h => h) (by rfl) (fun u _ => by go_simp) hS ?_
  simp only [Act.put, List.setIfInBounds_toArray, List.set_cons_zero, List.set_cons_succ]
  refine wpAnyL_take 14 17 (.pointer (some ⟨M, 2, none⟩)) [] rfl rfl (by kernel_rfl) (by kernel_rfl) (by kernel_rfl) (by kernel_rfl) (by kernel_rfl) (fun _ _ _ h => h) (by rfl) (fun u _ => by go_simp) hS ?_
  simp only [Act.put, List.setIfInBounds_toArray, List.set_cons_zero, List.set_cons_succ]
  refine wpAnyL_take 15 18 (.bool off) [] rfl rfl (by kernel_rfl) (by kernel_rfl) (by kernel_rfl) (by kernel_rfl) (by kernel_rfl) (fun _ _ _ h => h) (by rfl) (fun z hz => by have s0 := (unhide HCL) z hz; obtain ⟨s1, s2, s3, s4⟩ := s0; go_simp) hS ?_
  simp only [Act.put, List.setIfInBounds_toArray, List.set_cons_zero, List.set_cons_succ]
  refine wpAnyL_take 16 19 (.pointer (some ⟨M, 0, none⟩)) [] rfl rfl (by kernel_rfl) (by kernel_rfl) (by kernel_rfl) (by kernel_rfl) (by kernel_rfl) (fun _ _ _ h => h) (by rfl) (fun u _ => by go_simp) hS ?_
  simp only [Act.put, List.setIfInBounds_toArray, List.set_cons_zero, List.set_cons_succ]
  refine wpAnyL_take 17 20 (.pointer (some ⟨M, 0, none⟩)) [] rfl rfl (by kernel_rfl) (by kernel_rfl) (by kernel_rfl) (by kernel_rfl) (by kernel_rfl) (fun _ _ _ h => h) (by rfl) (fun u _ => by go_simp) hS ?_
  simp only [Act.put, List.setIfInBounds_toArray, List.set_cons_zero, List.set_cons_succ]
  refine wpAnyL_take 18 21 (.pointer (some ⟨M, 3, none⟩)) [] rfl rfl (by kernel_rfl) (by kernel_rfl) (by kernel_rfl) (by kernel_rfl) (by kernel_rfl) (fun _ _ _ h => h) (by rfl) (fun u _ => by go_simp) hS ?_
  simp only [Act.put, List.setIfInBounds_toArray, List.set_cons_zero, List.set_cons_succ]
  refine wpAnyL_take 19 22 (.int .i64 fu) [] rfl rfl (by kernel_rfl) (by kernel_rfl) (by kernel_rfl) (by kernel_rfl) (by kernel_rfl) (fun _ _ _ h => h) (by rfl) (fun z hz => by have s0 := (unhide HCL) z hz; obtain ⟨s1, s2, s3, s4⟩ := s0; go_simp) hS ?_
  simp only [Act.put, List.setIfInBounds_toArray, List.set_cons_zero, List.set_cons_succ]
  refine wpAnyL_two (i := 0) (j := 6) (by kernel_rfl) rfl rfl (by rfl) (by rfl) (fun K hK => ?_) (fun K hK => ?_)
  · refine wp_buildTo (by rfl) _ _ (by simp only [List.map_toArray, List.map_nil]; exact hbs0 w0) (some 3) (by rfl) ?_
    have HBwa : Hid (Below U u (w0.alloc (.cells #[] 9))) := (unhide HBw0).alloc (unhide HLU _ (unhide HBw0)) _
    have HXR1 : Hid ((w0.alloc (.cells #[] 9)).heap[w0.heap.size]? = some (.cells #[] 9 (0, 0))) := heap_alloc_new _ _
    have HKR1 : Hid (∀ k, k < w0.heap.size → (w0.alloc (.cells #[] 9)).heap[k]? = w0.heap[k]?) := fun k hk => Deep.blk_alloc_lt _ _ k hk
    refine hK _ _ (fun _ => unhide HBwa) ?_
    clear hK K
    simp only [Act.put, List.setIfInBounds_toArray, List.set_cons_zero, List.set_cons_succ]
    have HLR1 : Hid (U ≤ w0.heap.size) := unhide HLU _ (unhide HBw0)
    obtain ⟨R1, hR1⟩ : ∃ z, z = w0.heap.size := ⟨_, rfl⟩
    have HER1 := hide hR1
    rw [← hR1] at HXR1 HLR1 HKR1 ⊢
    generalize w0.alloc (.cells #[] 9) = wa at *
    clear hR1
    refine wpAnyL_two (i := 5) (j := 6) (by kernel_rfl) rfl rfl (by rfl) (by rfl) (fun K hK => ?_) (fun K hK => ?_)
    · obtain ⟨v', w5, hr5, ho5, hg5, hn5⟩ := copyAt wa U R1 g c n xs (unhide HXN).1 (unhide HXN).2.1 (unhide HLU _ (unhide HBwa)) (own_empty (unhide HXR1) (unhide HLR1)) (unhide HXN).2.2 (unhide HCX _ (unhide HBwa))
      have HBw5 : Hid (Below U u w5) := (unhide HBwa).grown hg5 (unhide HLU _ (unhide HBwa)) (fun k e => by simp at e; rw [← e]; exact unhide HLR1)
      have HO5 := hide (And.intro ho5 (And.intro hg5 hn5))
      refine wp_append_to _ (.tmp 3) (.tmp 7) 36 36 (by rfl) (some 8) (by rfl) 36 (by rfl) _ _ (by rfl) (by rfl) _ _ hr5 ?_
      refine hK _ _ (fun _ => unhide HBw5) ?_
      clear hK K hr5 ho5 hg5 hn5
      simp only [Act.put, List.setIfInBounds_toArray, List.set_cons_zero, List.set_cons_succ]
      refine wpAnyL_one (i := 6) (by kernel_rfl) rfl (by rfl) fun K hK => ?_
      refine wp_buildTo (by rfl) _ _ (by simp only [List.map_toArray, List.map_nil]; exact hbs6 w5) (some 9) (by rfl) ?_
      have HBw6 : Hid (Below U u (w5.alloc (.cells #[] 95))) := (unhide HBw5).alloc (unhide HLU _ (unhide HBw5)) _
      have HXR2 : Hid ((w5.alloc (.cells #[] 95)).heap[w5.heap.size]? = some (.cells #[] 95 (0, 0))) := heap_alloc_new _ _
      have HKR2 : Hid (∀ k, k < w5.heap.size → (w5.alloc (.cells #[] 95)).heap[k]? = w5.heap[k]?) := fun k hk => Deep.blk_alloc_lt _ _ k hk
      refine hK _ _ (fun _ => unhide HBw6) ?_
      clear hK K
      simp only [Act.put, List.setIfInBounds_toArray, List.set_cons_zero, List.set_cons_succ]
      have HLR2 : Hid (U ≤ w5.heap.size) := unhide HLU _ (unhide HBw5)
      obtain ⟨R2, hR2⟩ : ∃ z, z = w5.heap.size := ⟨_, rfl⟩
      have HER2 := hide hR2
      rw [← hR2] at HXR2 HLR2 HKR2 ⊢
      generalize w5.alloc (.cells #[] 95) = w6 at *
      clear hR2
      refine wpAnyL_one (i := 11) (by kernel_rfl) rfl (by rfl) fun K hK => ?_
      refine wp_append_to _ (.tmp 9) (.tmp 13) 81 81 (by rfl) (some 14) (by rfl) 81 (by rfl) _ _ (by rfl) (by rfl) _ _ (appNone _ _) ?_
      refine hK _ _ (fun _ => unhide HBw6) ?_
      clear hK K
      simp only [Act.put, List.setIfInBounds_toArray, List.set_cons_zero, List.set_cons_succ]
      have HCS : Hid (CopyS U u w6 v' R2 n xs) := by
        obtain ⟨ho, hg, hn⟩ := unhide HO5
        refine ⟨ownsRow_keep ho fun k hk => unhide HKR2 k (by rw [unhide HER2]; exact (ho.lt k hk).2), unhide HXR2, unhide HLR2, fun e => ?_, unhide HBw6⟩
        have := (ho.lt _ e).2
        have := unhide HER2
        omega
      obtain ⟨ao', c', hv'⟩ := ownsRow_len (unhide HCS).1
      subst hv'
      refine wpAnyL_one (i := 20) (by kernel_rfl) rfl (by rfl) fun K hK => ?_
      refine wp_val (.agg #[.slice ao' n c', .slice (some ⟨R2, 0, none⟩) 0 0, .bool off, .int .i64 fu]) (by go_simp) (some 23) (by rfl) ?_
      refine hK _ _ (fun _ => unhide HBw6) ?_
      clear hK K
      simp only [Act.put, List.setIfInBounds_toArray, List.set_cons_zero, List.set_cons_succ]
      refine wpAnyL_one (i := 21) (by kernel_rfl) rfl (by rfl) fun K hK => ?_
      refine wp_box_row 83 (.tmp 23) (by rfl) (some 24) (by rfl) w6.heap.size rfl #[.slice ao' n c', .slice (some ⟨R2, 0, none⟩) 0 0, .bool off, .int .i64 fu] (by rfl) ?_
      intro WZ HXZ HBZ HSZ
      have HBU : Hid (Below U u WZ) := (unhide HBw6).trans ((unhide HBZ).mono (unhide HLU _ (unhide HBw6)))
      refine hK _ _ (fun _ => unhide HBU) ?_
      clear hK K
      simp only [Act.put, List.setIfInBounds_toArray, List.set_cons_zero, List.set_cons_succ]
      refine wpAnyL_one (i := 22) (by kernel_rfl) rfl (by rfl) fun K hK => ?_
      refine wp_val (.pointer (some ⟨w6.heap.size, 0, none⟩)) (by go_simp) (some 2) (by rfl) ?_
      refine hK _ _ (fun h => absurd rfl h) ?_
      clear hK K
      simp only [Act.put, List.setIfInBounds_toArray, List.set_cons_zero, List.set_cons_succ]
      refine wpAnyL_done (by kernel_rfl) ?_ _
      go_wp2
      go_ret
      exact copy_done (unhide HD) (unhide HCS) (unhide HXZ) (unhide HBZ) (unhide HLU _ (unhide HBw6)) (unhide HBU)
    · refine wp_buildTo (by rfl) _ _ (by simp only [List.map_toArray, List.map_nil]; exact hbs6 wa) (some 9) (by rfl) ?_
      have HBwb : Hid (Below U u (wa.alloc (.cells #[] 95))) := (unhide HBwa).alloc (unhide HLU _ (unhide HBwa)) _
      have HXR2 : Hid ((wa.alloc (.cells #[] 95)).heap[wa.heap.size]? = some (.cells #[] 95 (0, 0))) := heap_alloc_new _ _
      have HKR2 : Hid (∀ k, k < wa.heap.size → (wa.alloc (.cells #[] 95)).heap[k]? = wa.heap[k]?) := fun k hk => Deep.blk_alloc_lt _ _ k hk
      refine hK _ _ (fun _ => unhide HBwb) ?_
      clear hK K
      simp only [Act.put, List.setIfInBounds_toArray, List.set_cons_zero, List.set_cons_succ]
      have HLR2 : Hid (U ≤ wa.heap.size) := unhide HLU _ (unhide HBwa)
      obtain ⟨R2, hR2⟩ : ∃ z, z = wa.heap.size := ⟨_, rfl⟩
      have HER2 := hide hR2
      rw [← hR2] at HXR2 HLR2 HKR2 ⊢
      generalize wa.alloc (.cells #[] 95) = wb at *
      clear hR2
      have HX1b : Hid (wb.heap[R1]? = some (.cells #[] 9 (0, 0))) := (unhide HKR2 R1 (by rw [unhide HER2]; exact (Array.getElem?_eq_some_iff.1 (unhide HXR1)).1)).trans (unhide HXR1)
      have HX2b : Hid (wb.heap[R2]? = some (.cells #[] 95 (0, 0))) := HXR2
      have HNE : Hid (R1 ≠ R2) := (show R1 ≠ R2 from by have h1 := (Array.getElem?_eq_some_iff.1 (unhide HXR1)).1; have h2 := unhide HER2; omega)
      refine wpAnyL_one (i := 5) (by kernel_rfl) rfl (by rfl) fun K hK => ?_
      obtain ⟨v', w5, hr5, ho5, hg5, hn5⟩ := copyAt wb U R1 g c n xs (unhide HXN).1 (unhide HXN).2.1 (unhide HLU _ (unhide HBwb)) (own_empty (unhide HX1b) (unhide HLR1)) (unhide HXN).2.2 (unhide HCX _ (unhide HBwb))
      have HBw5 : Hid (Below U u w5) := (unhide HBwb).grown hg5 (unhide HLU _ (unhide HBwb)) (fun k e => by simp at e; rw [← e]; exact unhide HLR1)
      have HO5 := hide (And.intro ho5 (And.intro hg5 hn5))
      refine wp_append_to _ (.tmp 3) (.tmp 7) 36 36 (by rfl) (some 8) (by rfl) 36 (by rfl) _ _ (by rfl) (by rfl) _ _ hr5 ?_
      refine hK _ _ (fun _ => unhide HBw5) ?_
      clear hK K hr5 ho5 hg5 hn5
      simp only [Act.put, List.setIfInBounds_toArray, List.set_cons_zero, List.set_cons_succ]
      refine wpAnyL_one (i := 11) (by kernel_rfl) rfl (by rfl) fun K hK => ?_
      refine wp_append_to _ (.tmp 9) (.tmp 13) 81 81 (by rfl) (some 14) (by rfl) 81 (by rfl) _ _ (by rfl) (by rfl) _ _ (appNone _ _) ?_
      refine hK _ _ (fun _ => unhide HBw5) ?_
      clear hK K
      simp only [Act.put, List.setIfInBounds_toArray, List.set_cons_zero, List.set_cons_succ]
      have HCS : Hid (CopyS U u w5 v' R2 n xs) := by
        obtain ⟨ho, hg, hn⟩ := unhide HO5
        have hlt := (Array.getElem?_eq_some_iff.1 (unhide HX2b)).1
        have hne : R1 ≠ R2 := unhide HNE
        refine ⟨ho, (hg.block R2 hlt (fun e => by simp at e; omega)).trans (unhide HX2b), unhide HLR2, fun e => ?_, unhide HBw5⟩
        rcases hn with h | ⟨g', h1, h2⟩
        · rw [h] at e; simp at e; exact hne e
        · rw [h1] at e; simp at e; omega
      obtain ⟨ao', c', hv'⟩ := ownsRow_len (unhide HCS).1
      subst hv'
      refine wpAnyL_one (i := 20) (by kernel_rfl) rfl (by rfl) fun K hK => ?_
      refine wp_val (.agg #[.slice ao' n c', .slice (some ⟨R2, 0, none⟩) 0 0, .bool off, .int .i64 fu]) (by go_simp) (some 23) (by rfl) ?_
      refine hK _ _ (fun _ => unhide HBw5) ?_
      clear hK K
      simp only [Act.put, List.setIfInBounds_toArray, List.set_cons_zero, List.set_cons_succ]
      refine wpAnyL_one (i := 21) (by kernel_rfl) rfl (by rfl) fun K hK => ?_
      refine wp_box_row 83 (.tmp 23) (by rfl) (some 24) (by rfl) w5.heap.size rfl #[.slice ao' n c', .slice (some ⟨R2, 0, none⟩) 0 0, .bool off, .int .i64 fu] (by rfl) ?_
      intro WZ HXZ HBZ HSZ
      have HBU : Hid (Below U u WZ) := (unhide HBw5).trans ((unhide HBZ).mono (unhide HLU _ (unhide HBw5)))
      refine hK _ _ (fun _ => unhide HBU) ?_
      clear hK K
      simp only [Act.put, List.setIfInBounds_toArray, List.set_cons_zero, List.set_cons_succ]
      refine wpAnyL_one (i := 22) (by kernel_rfl) rfl (by rfl) fun K hK => ?_
      refine wp_val (.pointer (some ⟨w5.heap.size, 0, none⟩)) (by go_simp) (some 2) (by rfl) ?_
      refine hK _ _ (fun h => absurd rfl h) ?_
      clear hK K
      simp only [Act.put, List.setIfInBounds_toArray, List.set_cons_zero, List.set_cons_succ]
      refine wpAnyL_done (by kernel_rfl) ?_ _
      go_wp2
      go_ret
      exact copy_done (unhide HD) (unhide HCS) (unhide HXZ) (unhide HBZ) (unhide HLU _ (unhide HBw5)) (unhide HBU)
  · refine wp_buildTo (by rfl) _ _ (by simp only [List.map_toArray, List.map_nil]; exact hbs6 w0) (some 9) (by rfl) ?_
    have HBwa : Hid (Below U u (w0.alloc (.cells #[] 95))) := (unhide HBw0).alloc (unhide HLU _ (unhide HBw0)) _
    have HXR2 : Hid ((w0.alloc (.cells #[] 95)).heap[w0.heap.size]? = some (.cells #[] 95 (0, 0))) := heap_alloc_new _ _
    have HKR2 : Hid (∀ k, k < w0.heap.size → (w0.alloc (.cells #[] 95)).heap[k]? = w0.heap[k]?) := fun k hk => Deep.blk_alloc_lt _ _ k hk
    refine hK _ _ (fun _ => unhide HBwa) ?_
    clear hK K
    simp only [Act.put, List.setIfInBounds_toArray, List.set_cons_zero, List.set_cons_succ]
    have HLR2 : Hid (U ≤ w0.heap.size) := unhide HLU _ (unhide HBw0)
    obtain ⟨R2, hR2⟩ : ∃ z, z = w0.heap.size := ⟨_, rfl⟩
    have HER2 := hide hR2
    rw [← hR2] at HXR2 HLR2 HKR2 ⊢
    generalize w0.alloc (.cells #[] 95) = wa at *
    clear hR2
    refine wpAnyL_one (i := 0) (by kernel_rfl) rfl (by rfl) fun K hK => ?_
    refine wp_buildTo (by rfl) _ _ (by simp only [List.map_toArray, List.map_nil]; exact hbs0 wa) (some 3) (by rfl) ?_
    have HBwb : Hid (Below U u (wa.alloc (.cells #[] 9))) := (unhide HBwa).alloc (unhide HLU _ (unhide HBwa)) _
    have HXR1 : Hid ((wa.alloc (.cells #[] 9)).heap[wa.heap.size]? = some (.cells #[] 9 (0, 0))) := heap_alloc_new _ _
    have HKR1 : Hid (∀ k, k < wa.heap.size → (wa.alloc (.cells #[] 9)).heap[k]? = wa.heap[k]?) := fun k hk => Deep.blk_alloc_lt _ _ k hk
    refine hK _ _ (fun _ => unhide HBwb) ?_
    clear hK K
    simp only [Act.put, List.setIfInBounds_toArray, List.set_cons_zero, List.set_cons_succ]
    have HLR1 : Hid (U ≤ wa.heap.size) := unhide HLU _ (unhide HBwa)
    obtain ⟨R1, hR1⟩ : ∃ z, z = wa.heap.size := ⟨_, rfl⟩
    have HER1 := hide hR1
    rw [← hR1] at HXR1 HLR1 HKR1 ⊢
    generalize wa.alloc (.cells #[] 9) = wb at *
    clear hR1
    have HX2b : Hid (wb.heap[R2]? = some (.cells #[] 95 (0, 0))) := (unhide HKR1 R2 (by rw [unhide HER1]; exact (Array.getElem?_eq_some_iff.1 (unhide HXR2)).1)).trans (unhide HXR2)
    have HNE : Hid (R1 ≠ R2) := (show R1 ≠ R2 from by have h1 := (Array.getElem?_eq_some_iff.1 (unhide HXR2)).1; have h2 := unhide HER1; omega)
    refine wpAnyL_one (i := 5) (by kernel_rfl) rfl (by rfl) fun K hK => ?_
    obtain ⟨v', w5, hr5, ho5, hg5, hn5⟩ := copyAt wb U R1 g c n xs (unhide HXN).1 (unhide HXN).2.1 (unhide HLU _ (unhide HBwb)) (own_empty (unhide HXR1) (unhide HLR1)) (unhide HXN).2.2 (unhide HCX _ (unhide HBwb))
    have HBw5 : Hid (Below U u w5) := (unhide HBwb).grown hg5 (unhide HLU _ (unhide HBwb)) (fun k e => by simp at e; rw [← e]; exact unhide HLR1)
    have HO5 := hide (And.intro ho5 (And.intro hg5 hn5))
    refine wp_append_to _ (.tmp 3) (.tmp 7) 36 36 (by rfl) (some 8) (by rfl) 36 (by rfl) _ _ (by rfl) (by rfl) _ _ hr5 ?_
    refine hK _ _ (fun _ => unhide HBw5) ?_
    clear hK K hr5 ho5 hg5 hn5
    simp only [Act.put, List.setIfInBounds_toArray, List.set_cons_zero, List.set_cons_succ]
    refine wpAnyL_one (i := 11) (by kernel_rfl) rfl (by rfl) fun K hK => ?_
    refine wp_append_to _ (.tmp 9) (.tmp 13) 81 81 (by rfl) (some 14) (by rfl) 81 (by rfl) _ _ (by rfl) (by rfl) _ _ (appNone _ _) ?_
    refine hK _ _ (fun _ => unhide HBw5) ?_
    clear hK K
    simp only [Act.put, List.setIfInBounds_toArray, List.set_cons_zero, List.set_cons_succ]
    have HCS : Hid (CopyS U u w5 v' R2 n xs) := by
      obtain ⟨ho, hg, hn⟩ := unhide HO5
      have hlt := (Array.getElem?_eq_some_iff.1 (unhide HX2b)).1
      have hne : R1 ≠ R2 := unhide HNE
      refine ⟨ho, (hg.block R2 hlt (fun e => by simp at e; omega)).trans (unhide HX2b), unhide HLR2, fun e => ?_, unhide HBw5⟩
      rcases hn with h | ⟨g', h1, h2⟩
      · rw [h] at e; simp at e; exact hne e
      · rw [h1] at e; simp at e; omega
    obtain ⟨ao', c', hv'⟩ := ownsRow_len (unhide HCS).1
    subst hv'
    refine wpAnyL_one (i := 20) (by kernel_rfl) rfl (by rfl) fun K hK => ?_
    refine wp_val (.agg #[.slice ao' n c', .slice (some ⟨R2, 0, none⟩) 0 0, .bool off, .int .i64 fu]) (by go_simp) (some 23) (by rfl) ?_
    refine hK _ _ (fun _ => unhide HBw5) ?_
    clear hK K
    simp only [Act.put, List.setIfInBounds_toArray, List.set_cons_zero, List.set_cons_succ]
    refine wpAnyL_one (i := 21) (by kernel_rfl) rfl (by rfl) fun K hK => ?_
    refine wp_box_row 83 (.tmp 23) (by rfl) (some 24) (by rfl) w5.heap.size rfl #[.slice ao' n c', .slice (some ⟨R2, 0, none⟩) 0 0, .bool off, .int .i64 fu] (by rfl) ?_
    intro WZ HXZ HBZ HSZ
    have HBU : Hid (Below U u WZ) := (unhide HBw5).trans ((unhide HBZ).mono (unhide HLU _ (unhide HBw5)))
    refine hK _ _ (fun _ => unhide HBU) ?_
    clear hK K
    simp only [Act.put, List.setIfInBounds_toArray, List.set_cons_zero, List.set_cons_succ]
    refine wpAnyL_one (i := 22) (by kernel_rfl) rfl (by rfl) fun K hK => ?_
    refine wp_val (.pointer (some ⟨w5.heap.size, 0, none⟩)) (by go_simp) (some 2) (by rfl) ?_
    refine hK _ _ (fun h => absurd rfl h) ?_
    clear hK K
    simp only [Act.put, List.setIfInBounds_toArray, List.set_cons_zero, List.set_cons_succ]
    refine wpAnyL_done (by kernel_rfl) ?_ _
    go_wp2
    go_ret
    exact copy_done (unhide HD) (unhide HCS) (unhide HXZ) (unhide HBZ) (unhide HLU _ (unhide HBw5)) (unhide HBU)
end
end Go.Proofs.Ytfdibmbffmgikaa
