/- The document's disk: Sync, Crash, Load. -/
import Derived.Test.YtfdibmbffmgikaaVc
namespace Go.Proofs.Ytfdibmbffmgikaa
open Go.RowKit Go.Lib

theorem lshare_true (ks : List Bool) (t c : Int) : lshare true ks t c = fun _ => 1024 := by funext i; rfl
theorem lshare_false (ks : List Bool) (t c : Int) : lshare false ks t c = share ks t c := by funext i; rfl
section
variable {B : Nat} {u u' : World} {M : Nat} {v1 v2 : Value} {d : Dk} {F : List Nat}
theorem rSyncOff (h : RkX B u M v1 v2 d) (ho : d.off = true) : Calls Try.prog 44 #[.pointer (some ⟨M, 0, none⟩)] u fun e u' => e = .returned (.int .i64 40) ∧ u' = u := by
  have c2 := h.c2
  rw [ho] at c2
  clear h
  go_enter Try.func44, Try.ntmps44
  go_wp2
  go_ret
  exact ⟨rfl, rfl⟩
theorem rSyncFuse (h : RkX B u M v1 v2 d) (ho : d.off = false) (hf : d.fuse = 0) : Calls Try.prog 44 #[.pointer (some ⟨M, 0, none⟩)] u fun e u' => e = .returned (.int .i64 40) ∧ RkX B u' M v1 v2 d.asked ∧ UpS u u' [M] := by
  have c2 := h.c2
  rw [ho] at c2
  have hka := rAsk h
  rw [if_pos hf] at hka
  clear h
  go_enter Try.func44, Try.ntmps44
  go_wp2_with fail
  refine hka.mono ?_
  rintro e w2 ⟨rfl, hw⟩
  have HW := hide hw
  clear hw hka
  go_wp2
  go_ret
  exact ⟨rfl, unhide HW⟩
theorem rSyncOk (h : RkX B u M v1 v2 d) (ho : d.off = false) (hf : d.fuse ≠ 0) (hm : d.pend.length ≤ 1000000000) : Calls Try.prog 44 #[.pointer (some ⟨M, 0, none⟩)] u fun e u' => e = .returned (.int .i64 0) ∧ RkX B u' M v1 (.slice none 0 0) (d.asked.settle fun _ => 1024) ∧ UpS u u' (M :: v1.ownBlock.toList) := by
  have c2 := h.c2
  rw [ho] at c2
  have hka := rAsk h
  rw [if_neg hf] at hka
  clear h
  go_enter Try.func44, Try.ntmps44
  go_wp2_with fail
  refine hka.mono ?_
  rintro e w2 ⟨rfl, hw⟩
  have HW := hide hw
  clear hw hka
  go_wp2_with fail
  have HL := hide (rLand (unhide HW).1 (by rw [d.asked_pend]; exact hm) none [] 0 (-1) 0 (fun h => absurd h (by simp)) true)
  rw [lshare_true] at HL
  refine (unhide HL).mono ?_
  rintro e w3 ⟨rfl, hw⟩
  have HW3 := hide hw
  clear hw HL
  go_wp2
  go_ret
  exact ⟨rfl, (unhide HW3).1, ((unhide HW).2.mono (fun x hx => .inl (by simp_all))).trans (unhide HW3).2 (fun x hx => .inl hx)⟩
theorem rSync (h : Rk B u M F d) (hm : d.pend.length ≤ 1000000000) : Calls Try.prog 44 #[.pointer (some ⟨M, 0, none⟩)] u fun e u' => e = .returned (.int .i64 d.sync.1) ∧ ∃ F', Rk B u' M F' d.sync.2 ∧ UpS u u' F ∧ ∀ k ∈ F', k ∈ F := by
  obtain ⟨v1, v2, rfl, h⟩ := h
  have hsub : ∀ k ∈ M :: v1.ownBlock.toList, k ∈ M :: (v1.ownBlock.toList ++ v2.ownBlock.toList) := fun k hk => by
    rcases List.mem_cons.1 hk with h' | h' <;> simp [h']
  cases ho : d.off
  · by_cases hf : d.fuse = 0
    · rw [Dk.sync_blow ho hf]
      exact (rSyncFuse h ho hf).mono fun e u' ⟨he, hd, hu⟩ => ⟨he, _, ⟨v1, v2, rfl, hd⟩, hu.mono fun y hy => .inl (by simp_all), fun k hk => hk⟩
    · rw [Dk.sync_done ho hf]
      refine (rSyncOk h ho hf hm).mono fun e u' ⟨he, hd, hu⟩ => ⟨he, _, ⟨v1, _, rfl, hd⟩, hu.mono fun k hk => .inl (hsub k hk), fun k hk => hsub k ?_⟩
      simpa [Value.ownBlock] using hk
  · rw [Dk.sync_off ho]
    exact (rSyncOff h ho).mono fun e u' ⟨he, hu⟩ => ⟨he, _, ⟨v1, v2, rfl, hu ▸ h⟩, hu ▸ UpS.refl _ _, fun k hk => hk⟩
set_option maxRecDepth 100000 in
theorem rCrashX (h : RkX B u M v1 v2 d) (hm : d.pend.length ≤ 1000000000) (kao : Option Addr) (ks : List Bool) (kc : Nat) (torn cut : Int) (hk : Ks u kao ks (M :: v1.ownBlock.toList)) :
    Calls Try.prog 46 #[.pointer (some ⟨M, 0, none⟩), .agg (fateV kao ks.length kc torn cut)] u fun e u' => e = .returned (.tuple #[]) ∧ RkX B u' M v1 (.slice none 0 0) (d.crash (share ks torn cut)) ∧ UpS u u' (M :: v1.ownBlock.toList) := by
  obtain ⟨N, hN⟩ : ∃ N, N = u.heap.size := ⟨_, rfl⟩
  have HN := hide hN
  have HH := hide (And.intro h (And.intro hm hk))
  obtain ⟨FV, hFV⟩ : ∃ z, z = fateV kao ks.length kc torn cut := ⟨_, rfl⟩
  have HFV := hide hFV
  rw [← hFV]
  clear h hm hk hN hFV
  have fUnd : Try.prog.underlying 27 = some (.struct (match Try.prog.underlying 27 with | some (.struct fs) => fs | _ => #[])) := by kernel_rfl
  have fInfo : (Try.prog.info? 27).map (·.size) = some FV.size := by rw [unhide HFV]; kernel_rfl
  have HFU := hide (And.intro fUnd fInfo)
  clear fUnd fInfo
  go_enter Try.func46, Try.ntmps46
  go_wp2_with (first
    | (refine wpList_box_row (by rfl) 27 (.tmp 1) (by rfl) (some 3) (by rfl) N (by exact (unhide HN).symm) FV (by rfl) ?_; intro W1 HX1 HB1 HS1; simp only [Act.put, List.setIfInBounds_toArray, List.set_cons_zero, List.set_cons_succ])
    | (refine wpList_load_row (by rfl) 27 (.tmp 3) (by rfl) N (by rfl) 27 FV (0, 0) _ (unhide HX1) (unhide HFU).1 rfl (unhide HFU).2 ?_; simp only [Act.put, List.setIfInBounds_toArray, List.set_cons_zero, List.set_cons_succ]))
  have hb1 : Below u.heap.size u W1 := by rw [← unhide HN]; exact unhide HB1
  have HL := hide (rLand ((unhide HH).1.below hb1) (unhide HH).2.1 kao ks kc torn cut ((unhide HH).2.2.upd (UpS.ofBelow [] hb1) (fun k hk => by cases hk)) false)
  rw [lshare_false, ← unhide HFV] at HL
  refine (unhide HL).mono ?_
  rintro e W2 ⟨rfl, hd2, hu2⟩
  have c3 := hd2.c2
  have c4 := hd2.c3
  have z3 := hd2.fz 2
  have z4 := hd2.fz 3
  have HD2 := hide hd2
  have HU2 : Hid (UpS u W2 (M :: v1.ownBlock.toList)) := (UpS.ofBelow (M :: v1.ownBlock.toList) hb1).trans hu2 (fun x hx => .inl hx)
  clear hd2 hu2 HX1 HB1 HS1 hb1 HL
  go_wp2
  go_returns
  exact ⟨rfl, (((unhide HD2).setOff false).setFuse (-1) (by decide) (by decide)), ((unhide HU2).setCell (.inl (by simp)) _).setCell (.inl (by simp)) _⟩
theorem rCrash (h : Rk B u M F d) (hm : d.pend.length ≤ 1000000000) (kao : Option Addr) (ks : List Bool) (kc : Nat) (torn cut : Int) (hk : Ks u kao ks F) :
    Calls Try.prog 46 #[.pointer (some ⟨M, 0, none⟩), .agg (fateV kao ks.length kc torn cut)] u fun e u' => e = .returned (.tuple #[]) ∧ ∃ F', Rk B u' M F' (d.crash (share ks torn cut)) ∧ UpS u u' F ∧ ∀ k ∈ F', k ∈ F := by
  obtain ⟨v1, v2, rfl, h⟩ := h
  have hsub : ∀ k ∈ M :: v1.ownBlock.toList, k ∈ M :: (v1.ownBlock.toList ++ v2.ownBlock.toList) := fun k hk => by
    rcases List.mem_cons.1 hk with h' | h' <;> simp [h']
  refine (rCrashX h hm kao ks kc torn cut (fun h0 => ?_)).mono fun e u' ⟨he, hd, hu⟩ => ⟨he, _, ⟨v1, _, rfl, hd⟩, hu.mono fun k hk => .inl (hsub k hk), fun k hk => hsub k (by simpa [Value.ownBlock] using hk)⟩
  obtain ⟨g, o, h1, h2, h3⟩ := hk h0
  exact ⟨g, o, h1, fun hx => h2 (hsub _ hx), h3⟩
end
theorem sv_loaded (ls : List ByteArray) : (Dk.loaded ls).lies.map str = sv ls := by
  simp only [Dk.loaded, sv, List.map_map]
  apply List.map_congr_left
  intro s _
  show Value.string _ = _
  rw [ba_eq]
theorem loaded_ok {ls : List ByteArray} (hL : loads ls = true) : (Dk.loaded ls).Ok := by
  unfold loads at hL
  rw [Bool.and_eq_true, decide_eq_true_eq, List.all_eq_true] at hL
  refine ⟨by simpa [Dk.loaded] using hL.1.1, by simpa [Dk.loaded] using hL.1.2, fun l hl => ?_, (fun _ hq => by cases hq), by show (-1 : Int) ≤ -1; decide, by show (-1 : Int) ≤ _; decide⟩
  obtain ⟨s, hs, rfl⟩ := List.mem_map.1 hl
  rw [size_list]
  exact eq_of_beq (hL.2 s hs)
/-- a copy that is owned -/
theorem copyOwn (u : World) (ls : List ByteArray) (ao : Option Addr) (cap : Nat) (h : Ts u ao ls) (h0 : 0 < ls.length) (hn : ls.length ≤ 1048576) :
    ∃ v' W', (Builtin.append_ #[36, 36] 36 #[.slice (some ⟨u.heap.size, 0, none⟩) 0 0, .slice ao ls.length cap]).run Try.prog (u.alloc (.cells #[] 9)) = .ok v' W' ∧ W'.ownsRow u.heap.size 9 1 v' ls.length (sv ls) ∧ Below u.heap.size u W' := by
  obtain ⟨i0, hi, hz0, hz1, hz2⟩ := info_parts infoStr
  have hb0 : Below u.heap.size u (u.alloc (.cells #[] 9)) := (Below.refl _ _).alloc (Nat.le_refl _) _
  obtain ⟨g, o, rfl, hc⟩ := h h0
  have hown : (u.alloc (.cells #[] 9)).ownsRow u.heap.size 9 1 (.slice (some ⟨u.heap.size, 0, none⟩) 0 0) 0 [] := World.ownsRow_made u #[] 0 (Nat.le_refl _) (by decide) rfl
  obtain ⟨v', W', hr, ho, hg', hnw⟩ := run_append_own' (P := Try.prog) (u.alloc (.cells #[] 9)) u.heap.size 36 36 9 i0 (.string .empty) 1 16 Try.underlying36 hi hz0 hz1 hz2 rfl (by decide) _ 0 [] hown ⟨g, o, none⟩ ls.length cap (sv ls) (by simp [sv]) (fun j x hx => by
    have hj : j < ls.length := by have := (List.getElem?_eq_some_iff.1 hx).1; simpa [sv] using this
    have := hc j hj
    rw [Addr.add_mid, World.cell?_alloc_lt _ _ _ (World.block_lt_of_cell? u _ this), this, ← hx]
    simp [sv, hj]) (fun x hx => by obtain ⟨s, _, rfl⟩ := List.mem_map.1 hx; rfl) (by simp only [maxLen]; omega) (by omega) (by simp)
  rw [Nat.zero_add, List.nil_append] at ho
  exact ⟨v', W', hr, ho, hb0.grown hg' hb0.size (fun k e => by simp [Value.ownBlock] at e; omega)⟩
def RLoadPost (u u' : World) (ls : List ByteArray) (e : Ending) : Prop := if loads ls then ∃ M F, e = .returned (.tuple #[.pointer (some ⟨M, 0, none⟩), .int .i64 0]) ∧ Rk u.heap.size u' M F (Dk.loaded ls) else e = .returned (.tuple #[.pointer none, .int .i64 1])
set_option maxRecDepth 100000 in
set_option maxHeartbeats 1000000 in
theorem rLoad (ls : List ByteArray) (ao : Option Addr) (cap : Nat) (u : World) (h : Ts u ao ls) (hn : ls.length ≤ 1048576) : Calls Try.prog 24 #[.slice ao ls.length cap] u fun e u' => Below u.heap.size u u' ∧ RLoadPost u u' ls e := by
  by_cases h0 : 0 < ls.length ∧ ls.length ≤ 4096
  · obtain ⟨n, hnn⟩ : ∃ n, n = ls.length := ⟨_, rfl⟩
    obtain ⟨v', W', hrun, hown, hbc⟩ := copyOwn u ls ao cap h h0.1 hn
    obtain ⟨g, o, rfl, hc⟩ := h h0.1
    have HC := hide hc
    have HNN := hide hnn
    rw [← hnn] at hrun
    have hn0 : ¬ (n : Int) < 1 := by omega
    have hn1 : ¬ (4096 : Int) < (n : Int) := by omega
    have HOW := hide (And.intro hown hbc)
    have HRUN := hide hrun
    rw [← hnn]
    clear h hc hnn hown hbc hn hrun
    go_enter Try.func24, Try.ntmps24
    go_wp2
    go_loop [4] (fun i => ∃ k : Nat, k ≤ n ∧ i = .int .i64 k ∧ Hid (∀ j (hj : j < ls.length), j < k → ls[j].size = 1024)) (fun i => n - (intOf i).toNat)
    case atStart => exact ⟨0, Nat.zero_le _, rfl, fun j _ h => absurd h (Nat.not_lt_zero _)⟩
    case round =>
      obtain ⟨k, hk, rfl, HI⟩ := hrel
      by_cases hlt : k < n
      · have hki : (k : Int) < (n : Int) := by omega
        have hkl : k < ls.length := by rw [← unhide HNN]; exact hlt
        have hck := unhide HC k hkl
        by_cases hsz : ls[k].size = 1024
        · have hsi : (ls[k].size : Int) = 1024 := by omega
          have HX : Hid (∀ j (hj : j < ls.length), j < k + 1 → ls[j].size = 1024) := fun j hj hjk => by
            rcases Nat.lt_or_ge j k with h | h
            · exact unhide HI j hj h
            · obtain rfl : j = k := by omega
              exact hsz
          generalize ls[k] = s at *
          clear HI
          go_wp2
          go_round
          case rel => exact ⟨k + 1, by omega, by go_num, HX⟩
          case measure => simp [intOf]; omega
        · have hsi : ¬ (ls[k].size : Int) = 1024 := by omega
          have HNL : Hid (loads ls = false) := by
            show loads ls = false
            rw [loads, Bool.and_eq_false_iff]
            right
            rw [List.all_eq_false]
            exact ⟨ls[k], List.getElem_mem hkl, by simpa using hsz⟩
          generalize ls[k] = s at *
          go_wp2
          go_ret2
          refine ⟨Below.refl _ _, ?_⟩
          unfold RLoadPost
          rw [if_neg (by rw [unhide HNL]; decide)]
          rfl
      · have hkk : n = k := by omega
        subst hkk
        have hrun := unhide HRUN
        obtain ⟨ao', c', hv'⟩ := ownsRow_len (unhide HOW).1
        rw [← unhide HNN] at hv'
        subst hv'
        go_wp2_with (at_builtin; refine append_to (by rfl) (.tmp 26) (.tmp 27) 36 36 (by rfl) (some 28) (by rfl) 36 (by rfl) _ _ (by rfl) (by rfl) _ _ hrun ?_; simp only [Act.put, List.setIfInBounds_toArray, List.set_cons_zero, List.set_cons_succ])
        go_ret2
        obtain ⟨hown, hbc⟩ := unhide HOW
        have hL : loads ls = true := by
          rw [loads, Bool.and_eq_true]
          refine ⟨decide_eq_true h0, ?_⟩
          rw [List.all_eq_true]
          intro s hs
          obtain ⟨j, hj, rfl⟩ := List.getElem_of_mem hs
          rw [beq_iff_eq]
          exact unhide HI j hj (by rw [unhide HNN]; exact hj)
        refine ⟨hbc.alloc hbc.size _, ?_⟩
        unfold RLoadPost
        rw [if_pos hL]
        refine ⟨W'.heap.size, _, rfl, .slice ao' n c', .slice none 0 0, rfl, ⟨?_, ?_, World.ownsRow_nil _ _ _ _, hbc.size, fun e => ?_, by simp [Value.ownBlock], fun k _ => by simp [Value.ownBlock], loaded_ok hL⟩⟩
        · exact heap_alloc_new _ _
        · rw [sv_loaded, show (Dk.loaded ls).lies.length = ls.length from by simp [Dk.loaded]]
          exact ownsRow_keep hown fun k hk => Deep.blk_alloc_lt W' _ k (hown.lt k hk).2
        · have := (hown.lt _ e).2
          omega
  · have hL : loads ls = false := by rw [loads, Bool.and_eq_false_iff]; exact .inl (decide_eq_false h0)
    have HL := hide hL
    clear hL h hn
    generalize ls.length = n at *
    by_cases h1 : (n : Int) < 1
    · go_enter Try.func24, Try.ntmps24
      go_wp2
      go_ret2
      refine ⟨Below.refl _ _, ?_⟩
      unfold RLoadPost
      rw [if_neg (by rw [unhide HL]; decide)]
      rfl
    · have h2 : (4096 : Int) < (n : Int) := by omega
      go_enter Try.func24, Try.ntmps24
      go_wp2
      go_ret2
      refine ⟨Below.refl _ _, ?_⟩
      unfold RLoadPost
      rw [if_neg (by rw [unhide HL]; decide)]
      rfl
end Go.Proofs.Ytfdibmbffmgikaa
