/- The disk: Sync, Crash. -/
import Derived.Test.YtfdibmbffmgikaaKh
namespace Go.Proofs.Ytfdibmbffmgikaa
open Go.RowKit Go.Lib

/-- how many bytes of the pending write i a fate lets land -/
def share (ks : List Bool) (torn cut : Int) (i : Nat) : Nat := if (i : Int) = torn then (min (max cut 0) 128).toNat * 8 else if ks.getD i false then 1024 else 0
theorem share_le (ks : List Bool) (torn cut : Int) (i : Nat) : share ks torn cut i ≤ 1024 := by
  unfold share
  split
  · omega
  · split <;> omega
/-- a list of bools that lies somewhere -/
def Ks (u : World) (ao : Option Addr) (ks : List Bool) (F : List Nat) : Prop := 0 < ks.length → ∃ g o, ao = some ⟨g, o, none⟩ ∧ g ∉ F ∧ ∀ (j : Nat) (hj : j < ks.length), u.cell? ⟨g, o + j, none⟩ = some (.bool ks[j])
theorem Ks.upd {u u' : World} {ao : Option Addr} {ks : List Bool} {F G : List Nat} (h : Ks u ao ks F) (hu : UpS u u' G) (hg : ∀ k ∈ G, k ∈ F) : Ks u' ao ks F := fun h0 => by
  obtain ⟨g, o, h1, h2, h3⟩ := h h0
  exact ⟨g, o, h1, h2, fun j hj => (hu.cell (p := ⟨g, o + j, none⟩) (World.block_lt_of_cell? u _ (h3 j hj)) (fun hx => h2 (hg _ hx))).trans (h3 j hj)⟩
def fateV (ao : Option Addr) (n c : Nat) (torn cut : Int) : Array Value := #[.slice ao n c, .int .i64 torn, .int .i64 cut]
set_option maxRecDepth 100000 in
theorem kLanding (ao : Option Addr) (ks : List Bool) (kc : Nat) (torn cut : Int) (i : Nat) (W : World) (hk : Ks W ao ks []) :
    Calls Try.prog 36 #[.agg (fateV ao ks.length kc torn cut), .int .i64 (i : Int)] W fun e W' => e = .returned (.int .i64 (share ks torn cut i : Int)) ∧ Below W.heap.size W W' := by
  have HB := hide ((Below.refl W.heap.size W).alloc (Nat.le_refl _) (.cells (fateV ao ks.length kc torn cut) 27))
  by_cases ht : (i : Int) = torn
  · have e : share ks torn cut i = (min (max cut 0) 128).toNat * 8 := by rw [share, if_pos ht]
    rw [e]
    clear hk e
    unfold fateV at *
    by_cases h0 : cut ≤ 0
    · rw [Int.max_eq_right h0, show (min (0 : Int) 128).toNat * 8 = 0 from rfl]
      subst ht
      rcases Int.lt_or_eq_of_le h0 with h1 | rfl
      · go_enter Try.func36, Try.ntmps36
        go_wp2
        go_ret
        exact ⟨rfl, unhide HB⟩
      · go_enter Try.func36, Try.ntmps36
        go_wp2
        go_ret
        exact ⟨rfl, unhide HB⟩
    · rw [Int.max_eq_left (by omega)]
      subst ht
      by_cases h1 : cut < 128
      · have e2 : ((min cut 128).toNat * 8 : Nat) = (cut.toNat * 8 : Nat) := by rw [Int.min_eq_left (by omega)]
        rw [e2]
        obtain ⟨c, rfl⟩ := Int.eq_ofNat_of_zero_le (show 0 ≤ cut by omega)
        have hw : wrap64 ((c : Int) * 8) = ((c * 8 : Nat) : Int) := by
          rw [show ((c * 8 : Nat) : Int) = (c : Int) * 8 from by omega]
          go_unwrap
        have hc0 : ¬ (c : Int) < 0 := by omega
        have hc1 : (0 : Int) < (c : Int) := by omega
        have hc2 : ¬ (128 : Int) < (c : Int) := by omega
        have hc3 : (0 : Int) ≤ (c : Int) := by omega
        have hc4 : (c : Int) ≤ 128 := by omega
        simp only [Int.toNat_natCast]
        go_enter Try.func36, Try.ntmps36
        go_wp2
        go_ret
        exact ⟨rfl, unhide HB⟩
      · have e2 : ((min cut 128).toNat * 8 : Nat) = 1024 := by rw [Int.min_eq_right (by omega)]; rfl
        rw [e2]
        rcases Int.lt_or_eq_of_le (show 128 ≤ cut by omega) with h2 | rfl
        · go_enter Try.func36, Try.ntmps36
          go_wp2
          go_ret
          exact ⟨rfl, unhide HB⟩
        · go_enter Try.func36, Try.ntmps36
          go_wp2
          go_ret
          exact ⟨rfl, unhide HB⟩
  · have e : share ks torn cut i = if ks.getD i false then 1024 else 0 := by rw [share, if_neg ht]
    rw [e]
    by_cases hi : i < ks.length
    · obtain ⟨g, o, rfl, _, hc⟩ := hk (by omega)
      have hci := hc i hi
      have hgd : ks.getD i false = ks[i] := by rw [List.getD_eq_getElem?_getD, List.getElem?_eq_getElem hi]; rfl
      have hii : (i : Int) < (ks.length : Int) := by omega
      have hcb : (W.alloc (.cells (fateV (some ⟨g, o, none⟩) ks.length kc torn cut) 27)).cell? ⟨g, o + i, none⟩ = some (.bool ks[i]) := by rw [World.cell?_alloc_lt _ _ _ (World.block_lt_of_cell? W _ hci)]; exact hci
      rw [hgd]
      clear hc hk hgd e hci
      unfold fateV at *
      generalize ks[i] = b at *
      cases b
      · go_enter Try.func36, Try.ntmps36
        go_wp2
        go_ret
        exact ⟨rfl, unhide HB⟩
      · go_enter Try.func36, Try.ntmps36
        go_wp2
        go_ret
        exact ⟨rfl, unhide HB⟩
    · have hgd : ks.getD i false = false := by rw [List.getD_eq_getElem?_getD, List.getElem?_eq_none (by omega)]; rfl
      rw [hgd, if_neg (by decide)]
      have hii : ¬ (i : Int) < (ks.length : Int) := by omega
      clear hk hgd e
      unfold fateV at *
      go_enter Try.func36, Try.ntmps36
      go_wp2
      go_ret
      exact ⟨rfl, unhide HB⟩
theorem kCrash1 (N : Nat) (ao : Option Addr) (ks : List Bool) (kc : Nat) (torn cut : Int) (i : Nat) (W : World) (hN : W.heap[N]? = some (.cells (fateV ao ks.length kc torn cut) 27 (0, 0))) (hk : Ks W ao ks []) :
    Calls Try.prog 35 #[.int .i64 (i : Int), .pointer (some ⟨N, 0, none⟩)] W fun e W' => e = .returned (.int .i64 (share ks torn cut i : Int)) ∧ Below W.heap.size W W' := by
  have hl := kLanding ao ks kc torn cut i W hk
  have c0 : W.cell? ⟨N, 0, none⟩ = some (.slice ao ks.length kc) := cell_of_row W N 0 _ _ _ hN
  have c1 : W.cell? ⟨N, 1, none⟩ = some (.int .i64 torn) := cell_of_row W N 1 _ _ _ hN
  have c2 : W.cell? ⟨N, 2, none⟩ = some (.int .i64 cut) := cell_of_row W N 2 _ _ _ hN
  clear hN hk
  generalize share ks torn cut i = S at *
  unfold fateV at *
  go_enter Try.func35, Try.ntmps35
  go_wp2_with fail
  refine hl.mono ?_
  rintro e w1 ⟨rfl, hw⟩
  have HW := hide hw
  clear hw hl
  go_wp2
  go_ret
  exact ⟨rfl, unhide HW⟩
theorem kSync1 (i : Nat) (W : World) : Calls Try.prog 41 #[.int .i64 (i : Int)] W fun e W' => e = .returned (.int .i64 1024) ∧ Below W.heap.size W W' := by
  go_enter Try.func41, Try.ntmps41
  go_wp2
  go_ret
  exact ⟨rfl, Below.refl _ _⟩
def Dk.crash (d : Dk) (s : Nat → Nat) : Dk := ⟨d.landed s d.pend.length, [], false, -1⟩
def Dk.sync (d : Dk) : Int × Dk := if d.off then (40, d) else if d.fuse = 0 then (40, d.asked) else (0, d.asked.settle fun _ => 1024)
theorem ent_lit {P : Program} (F : FuncId) (h : (P.funcs[F]?).map (fun fn => (fn.name == "runtime.NumGoroutine", fn.body.isNone)) = some (false, false)) (args : Array Value) (w : World) : (callFunc F args).run P w = .ok (.enter F args) w := by
  cases hq : P.funcs[F]? with
  | none => simp [hq] at h
  | some fn =>
    simp only [hq, Option.map_some, Option.some.injEq, Prod.mk.injEq] at h
    have h1 : fn.name ≠ "runtime.NumGoroutine" := by simpa using h.1
    cases hb : fn.body with
    | none => simp [hb] at h
    | some c => simp [callFunc, hq, h1, hb]
section
variable {B : Nat} {u : World} {D L T : Nat} {v : Value} {f : List Nat} {d : Dk} {F : List Nat}
set_option maxRecDepth 100000 in
set_option maxHeartbeats 1000000 in
theorem kCrashX (h : DskX B u D L T v f d) (hm : d.pend.length ≤ 1000000000) (ao : Option Addr) (ks : List Bool) (kc : Nat) (torn cut : Int) (hk : Ks u ao ks [D, L, T]) :
    Calls Try.prog 11 #[.pointer (some ⟨D, 0, none⟩), .agg (fateV ao ks.length kc torn cut)] u fun e u' => e = .returned (.tuple #[]) ∧ DskX B u' D L T (.slice none 0 0) (List.replicate d.lies.length 0) (d.crash (share ks torn cut)) ∧ UpS u u' [D, L, T] := by
  obtain ⟨N, hN⟩ : ∃ N, N = u.heap.size := ⟨_, rfl⟩
  have hlt := h.lt_of
  have HN := hide hN
  have HH := hide (And.intro h (And.intro hm hk))
  clear h hm hk hN
  go_enter Try.func11, Try.ntmps11
  go_wp2_with (first | (refine wpList_box_row (by rfl) 27 (.tmp 1) (by rfl) (some 3) (by rfl) N (by exact (unhide HN).symm) (fateV ao ks.length kc torn cut) (by rfl) ?_; intro W1 HX1 HB1 HS1; simp only [Act.put, List.setIfInBounds_toArray, List.set_cons_zero, List.set_cons_succ]) | fail)
  have hb1 : Below u.heap.size u W1 := by rw [← unhide HN]; exact unhide HB1
  have hD1 := (unhide HH).1.below hb1
  refine (kSettle 35 #[.pointer (some ⟨N, 0, none⟩)] (share ks torn cut) (share_le ks torn cut) (ent_lit _ (by kernel_rfl)) hD1 (unhide HH).2.1 (fun i W hW => ?_)).mono ?_
  · have hNn : N ∉ [D, L, T] := by have := unhide HN; simp; omega
    have hNs : N < W1.heap.size := by rw [unhide HS1]; omega
    refine kCrash1 N ao ks kc torn cut i W ((hW.block N hNs hNn).trans (unhide HX1)) fun h0 => ?_
    obtain ⟨g, o, h1, h2, h3⟩ := (((unhide HH).2.2.upd (UpS.ofBelow [] hb1) (fun k hk => by cases hk)).upd hW (fun k hk => hk)) h0
    exact ⟨g, o, h1, (by simp), h3⟩
  rintro e W2 ⟨rfl, hd2, hu2⟩
  have c3 := hd2.c3
  have c4 := hd2.c4
  have z3 := hd2.fz 3
  have z4 := hd2.fz 4
  have HD2 := hide hd2
  have HU2 : Hid (UpS u W2 [D, L, T]) := (UpS.ofBelow [D, L, T] hb1).trans hu2 (fun x hx => .inl hx)
  clear hd2 hu2 hD1 HX1 HB1 HS1 hb1
  go_wp2
  go_returns
  exact ⟨rfl, (((unhide HD2).setOff false).setFuse (-1) (by decide) (by decide)), ((unhide HU2).setCell (.inl (by simp)) _).setCell (.inl (by simp)) _⟩
theorem kCrash (h : Dsk B u D F d) (hm : d.pend.length ≤ 1000000000) (ao : Option Addr) (ks : List Bool) (kc : Nat) (torn cut : Int) (hk : Ks u ao ks F) :
    Calls Try.prog 11 #[.pointer (some ⟨D, 0, none⟩), .agg (fateV ao ks.length kc torn cut)] u fun e u' => e = .returned (.tuple #[]) ∧ ∃ F', Dsk B u' D F' (d.crash (share ks torn cut)) ∧ UpS u u' F ∧ ∀ k ∈ F', k ∈ F := by
  obtain ⟨L, T, v, f, rfl, h⟩ := h
  have hsub : ∀ k ∈ [D, L, T], k ∈ D :: L :: T :: v.ownBlock.toList := fun k hk => by simp at hk ⊢; omega
  refine (kCrashX h hm ao ks kc torn cut (fun h0 => ?_)).mono fun e u' ⟨he, hd, hu⟩ => ⟨he, _, ⟨L, T, _, _, rfl, hd⟩, hu.mono fun k hk => .inl (hsub k hk), fun k hk => hsub k hk⟩
  obtain ⟨g, o, h1, h2, h3⟩ := hk h0
  exact ⟨g, o, h1, fun hx => h2 (hsub _ hx), h3⟩
theorem kSyncOff (h : DskX B u D L T v f d) (ho : d.off = true) : Calls Try.prog 14 #[.pointer (some ⟨D, 0, none⟩)] u fun e u' => e = .returned (.int .i64 40) ∧ u' = u := by
  have hk := kDark h
  rw [ho, if_pos rfl] at hk
  clear h
  go_enter Try.func14, Try.ntmps14
  go_wp2_with fail
  refine hk.mono ?_
  rintro e w1 ⟨rfl, hw⟩
  obtain rfl := hw.symm
  clear hw hk
  go_wp2
  go_ret
  exact ⟨rfl, rfl⟩
theorem kSyncFuse (h : DskX B u D L T v f d) (ho : d.off = false) (hf : d.fuse = 0) : Calls Try.prog 14 #[.pointer (some ⟨D, 0, none⟩)] u fun e u' => e = .returned (.int .i64 40) ∧ DskX B u' D L T v f d.asked ∧ UpS u u' [D] := by
  have hk := kDark h
  rw [ho, if_neg (by decide)] at hk
  have hka := kAsk h
  rw [if_pos hf] at hka
  clear h
  go_enter Try.func14, Try.ntmps14
  go_wp2_with fail
  refine hk.mono ?_
  rintro e w1 ⟨rfl, hw⟩
  obtain rfl := hw.symm
  clear hw hk
  go_wp2_with fail
  refine hka.mono ?_
  rintro e w2 ⟨rfl, hw⟩
  have HW := hide hw
  clear hw hka
  go_wp2
  go_ret
  exact ⟨rfl, unhide HW⟩
theorem kSyncOk (h : DskX B u D L T v f d) (ho : d.off = false) (hf : d.fuse ≠ 0) (hm : d.pend.length ≤ 1000000000) : Calls Try.prog 14 #[.pointer (some ⟨D, 0, none⟩)] u fun e u' => e = .returned (.int .i64 0) ∧ DskX B u' D L T (.slice none 0 0) (List.replicate d.lies.length 0) (d.asked.settle fun _ => 1024) ∧ UpS u u' [D, L, T] := by
  have hk := kDark h
  rw [ho, if_neg (by decide)] at hk
  have hka := kAsk h
  rw [if_neg hf] at hka
  clear h
  go_enter Try.func14, Try.ntmps14
  go_wp2_with fail
  refine hk.mono ?_
  rintro e w1 ⟨rfl, hw⟩
  obtain rfl := hw.symm
  clear hw hk
  go_wp2_with fail
  refine hka.mono ?_
  rintro e w2 ⟨rfl, hw⟩
  have HW := hide hw
  clear hw hka
  go_wp2_with fail
  refine (kSettle 41 #[] (fun _ => 1024) (fun _ => Nat.le_refl _) (ent_lit _ (by kernel_rfl)) (unhide HW).1 (by rw [d.asked_pend]; exact hm) (fun i W _ => kSync1 i W)).mono ?_
  rintro e w3 ⟨rfl, hw⟩
  rw [d.asked_lies] at hw
  have HW3 := hide hw
  clear hw
  go_wp2
  go_ret
  exact ⟨rfl, (unhide HW3).1, ((unhide HW).2.mono (fun x hx => .inl (by simp_all))).trans (unhide HW3).2 (fun x hx => .inl hx)⟩
theorem kSync (h : Dsk B u D F d) (hm : d.pend.length ≤ 1000000000) : Calls Try.prog 14 #[.pointer (some ⟨D, 0, none⟩)] u fun e u' => e = .returned (.int .i64 d.sync.1) ∧ ∃ F', Dsk B u' D F' d.sync.2 ∧ UpS u u' F ∧ ∀ k ∈ F', k ∈ F := by
  obtain ⟨L, T, v, f, rfl, h⟩ := h
  have hsub : ∀ k ∈ [D, L, T], k ∈ D :: L :: T :: v.ownBlock.toList := fun k hk => by simp at hk ⊢; omega
  unfold Dk.sync
  cases ho : d.off
  · rw [if_neg (by decide)]
    by_cases hf : d.fuse = 0
    · rw [if_pos hf]
      exact (kSyncFuse h ho hf).mono fun e u' ⟨he, hd, hu⟩ => ⟨he, _, ⟨L, T, v, f, rfl, hd⟩, hu.mono fun y hy => .inl (by simp_all), fun k hk => hk⟩
    · rw [if_neg hf]
      exact (kSyncOk h ho hf hm).mono fun e u' ⟨he, hd, hu⟩ => ⟨he, _, ⟨L, T, _, _, rfl, hd⟩, hu.mono fun k hk => .inl (hsub k hk), fun k hk => hsub k hk⟩
  · rw [if_pos rfl]
    exact (kSyncOff h ho).mono fun e u' ⟨he, hu⟩ => ⟨he, _, ⟨L, T, v, f, rfl, hu ▸ h⟩, hu ▸ UpS.refl _ _, fun k hk => hk⟩
end
end Go.Proofs.Ytfdibmbffmgikaa
