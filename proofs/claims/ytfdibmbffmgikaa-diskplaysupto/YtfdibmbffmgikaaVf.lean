/- The disk's laws, beside the document's disk: all questions. -/
import Derived.Test.YtfdibmbffmgikaaVe
import Derived.Deep.QuietTactic
namespace Go.Proofs.Ytfdibmbffmgikaa
open Go.RowKit Go.Lib

theorem below_drewN (w : World) (n : Nat) : Below w.heap.size w (w.drewN n) := ⟨rfl, rfl, rfl, Nat.le_refl _, fun _ _ => rfl⟩
theorem own_ts {u : World} {B n : Nat} {v : Value} {l : List (List UInt8)} (h : u.ownsRow B 9 1 v n (l.map str)) (hn : n = l.length) : ∃ ao c, v = .slice ao n c ∧ Ts u ao (l.map fun b => ⟨b.toArray⟩) := by
  subst hn
  rcases h.2 with ⟨h1, h2⟩ | ⟨g, cap, cur, hv, h1, h2, h3, h4, h5, h6⟩
  · exact ⟨none, 0, by rw [h1, h2], fun h0 => by rw [List.length_map, h2] at h0; exact absurd h0 (Nat.lt_irrefl _)⟩
  · refine ⟨_, _, hv, fun h0 => ⟨g, 0, rfl, fun j hj => ?_⟩⟩
    rw [List.length_map] at hj
    have : (l.map str)[j]? = some (str l[j]) := by simp [hj]
    rw [← h6, List.getElem?_take_of_lt (by omega), Array.getElem?_toList] at this
    rw [Nat.zero_add, cell_of_row u g j _ _ _ h2, this]
    simp [str]
theorem strs_own {u : World} {R : Nat} {l : List (List UInt8)} (h : u.heap[R]? = some (.cells (strs l) 9 (0, 0))) (hl : l.length ≤ 9223372036854775807) : u.ownsRow 0 9 1 (.slice (some ⟨R, 0, none⟩) l.length l.length) l.length (l.map str) :=
  ⟨by rw [List.length_map, Nat.mul_one], .inr ⟨R, l.length, strs l, rfl, Nat.zero_le _, h, Nat.le_refl _, hl, by simp [strs], by show (l.map str).take _ = _; exact List.take_of_length_le (by simp)⟩⟩
theorem row_tt {u : World} {R : Nat} {l : List (List UInt8)} (h : u.heap[R]? = some (.cells (strs l) 9 (0, 0))) : Ts u (some ⟨R, 0, none⟩) (l.map fun b => ⟨b.toArray⟩) := fun _ => ⟨R, 0, rfl, fun j hj => by
  rw [Nat.zero_add, cell_of_row u R j _ _ _ h]
  have hj' : j < l.length := by simpa using hj
  simp [strs, str, hj']⟩
theorem Ts.up {u u' : World} {ao : Option Addr} {ls : List ByteArray} {F : List Nat} (h : Ts u ao ls) (hu : UpS u u' F) (hF : ∀ g o, ao = some ⟨g, o, none⟩ → g ∉ F) : Ts u' ao ls := fun h0 => by
  obtain ⟨g, o, h1, h2⟩ := h h0
  exact ⟨g, o, h1, fun j hj => by rw [hu.cell (p := ⟨g, o + j, none⟩) (World.block_lt_of_cell? u _ (h2 j hj)) (hF g o h1)]; exact h2 j hj⟩
theorem lSameM (l : List (List UInt8)) (ao ao2 : Option Addr) (n1 n2 c1 c2 : Nat) (u : World) (h1 : Ts u ao (l.map fun b => ⟨b.toArray⟩)) (h2 : Ts u ao2 (l.map fun b => ⟨b.toArray⟩)) (hn1 : n1 = l.length) (hn2 : n2 = l.length) (hl : l.length ≤ 9223372036854775807) :
    Calls Try.prog 26 #[.slice ao n1 c1, .slice ao2 n2 c2] u fun e u' => e = .returned (.bool true) ∧ UpS u u' [] := by
  have := lSame (l.map fun b => ⟨b.toArray⟩) ao ao2 c1 c2 u h1 h2 (by simpa using hl)
  rw [List.length_map] at this
  rw [hn1, hn2]
  exact this
section
variable {B : Nat} {w : World} {D M : Nat} {F G : List Nat} {d : Dk}
set_option maxRecDepth 100000 in
set_option maxHeartbeats 2000000 in
theorem lAsked (h : Two B w D M F G d d) : Calls Try.prog 23 #[.pointer (some ⟨D, 0, none⟩), .pointer (some ⟨M, 0, none⟩)] w fun e w' => e = .returned (.bool true) ∧ UpS w w' [] := by
  have HH := hide h
  obtain ⟨v1, v2, hG, hr⟩ := h.rk
  have HRT := hide hr.lt_of
  have HP1 : Hid (∀ n, Calls Try.prog 15 #[.pointer (some ⟨D, 0, none⟩)] (w.drewN n) fun e u' => e = .returned (.int .i64 (d.lies.length : Int)) ∧ u' = w.drewN n) := fun n => kPagesD (h.dk.below (below_drewN w n))
  have HP2 : Hid (∀ n, Calls Try.prog 47 #[.pointer (some ⟨M, 0, none⟩)] (w.drewN n) fun e u' => e = .returned (.int .i64 (d.lies.length : Int)) ∧ u' = w.drewN n) := fun n => rPages (hr.below (below_drewN w n))
  have HP3 : Hid (∀ n, Calls Try.prog 16 #[.pointer (some ⟨D, 0, none⟩)] (w.drewN n) fun e u' => e = .returned (.int .i64 (d.pend.length : Int)) ∧ u' = w.drewN n) := fun n => kPendingD (h.dk.below (below_drewN w n))
  have HP4 : Hid (∀ n, Calls Try.prog 17 #[.pointer (some ⟨D, 0, none⟩)] (w.drewN n) fun e u' => e = .returned (.bool (!d.off)) ∧ u' = w.drewN n) := fun n => kLitD (h.dk.below (below_drewN w n))
  have HTS : Hid (∃ ao c, v1 = .slice ao d.lies.length c ∧ Ts w ao (d.lies.map fun b => ⟨b.toArray⟩)) := own_ts hr.lies rfl
  obtain ⟨ao1, c1, rfl, hts⟩ := unhide HTS
  obtain ⟨ao2, c2, rfl⟩ := ownsRow_len hr.pend
  have k0 := hr.c0
  have k1 := hr.c1
  have k2 := hr.c2
  have HK0 := hide k0
  have HTX := hide hts
  have HOK := hide h.dk.ok
  obtain ⟨n, hn⟩ : ∃ n, n = d.lies.length := ⟨_, rfl⟩
  obtain ⟨q, hq⟩ : ∃ q, q = d.pend.length := ⟨_, rfl⟩
  have HN := hide hn
  have hn1 : n ≤ 4096 := by rw [hn]; exact h.dk.ok.max
  have hn0 : 0 < n := by rw [hn]; exact h.dk.ok.pos
  rw [← hn] at HP1 HP2 k0 HK0
  rw [← hq] at HP3 k1
  cases hoff : d.off <;> rw [hoff] at HP4 k2
  all_goals
    clear h hr hts hq HTS hG hn hoff
    go_enter Try.func23, Try.ntmps23
    go_wp2_with fail
    go_quiet (first | exact Calls.quiet_of_same (unhide HP1 _) | exact Calls.quiet_of_same (unhide HP2 _) | exact Calls.quiet_of_same (unhide HP3 _) | exact Calls.quiet_of_same (unhide HP4 _))
    obtain ⟨w1, hw1⟩ : ∃ w1, w1 = w.drewN nq := ⟨_, rfl⟩
    have HB1 : Hid (Below w.heap.size w w1) := by rw [hw1]; exact below_drewN w nq
    rw [← hw1]
    clear hw1 HP1 HP2 HP3 HP4 k0 k1 k2
    go_wp2_with fail
    refine (kDurableD ((unhide HH).dk.below (unhide HB1))).mono ?_
    rintro e w2 ⟨rfl, hx, hb, hs⟩
    obtain ⟨Ra, hRa⟩ : ∃ z, z = w1.heap.size := ⟨_, rfl⟩
    rw [← hRa] at hx
    rw [← hRa, ← unhide HN]
    have HX2 := hide hx
    have HB2 : Hid (Below w.heap.size w w2) := (unhide HB1).trans (hb.mono (unhide HB1).size)
    have HRa : Hid (w.heap.size ≤ Ra) := by rw [hRa]; exact (unhide HB1).size
    clear hx hb hs hRa
    go_wp2_with fail
    refine (kDurableD ((unhide HH).dk.below (unhide HB2))).mono ?_
    rintro e w3 ⟨rfl, hx, hb, hs⟩
    obtain ⟨Rb, hRb⟩ : ∃ z, z = w2.heap.size := ⟨_, rfl⟩
    rw [← hRb] at hx
    rw [← hRb, ← unhide HN]
    have HX3 := hide hx
    have HXA3 : Hid (w3.heap[Ra]? = some (.cells (strs d.lies) 9 (0, 0))) := (hb.block Ra (Array.getElem?_eq_some_iff.1 (unhide HX2)).1).trans (unhide HX2)
    have HB3 : Hid (Below w.heap.size w w3) := (unhide HB2).trans (hb.mono (unhide HB2).size)
    have HRb : Hid (w.heap.size ≤ Rb ∧ Ra ≠ Rb) := ⟨by rw [hRb]; exact (unhide HB2).size, by have := (Array.getElem?_eq_some_iff.1 (unhide HX2)).1; omega⟩
    have k0 : w3.cell? ⟨M, 0, none⟩ = _ := ((unhide HB3).cell (p := ⟨M, 0, none⟩) (unhide HRT)).trans (unhide HK0)
    clear hx hb hs hRb HX2 HB1 HB2
    go_wp2_with fail
    refine (lSameM d.lies (some ⟨Ra, 0, none⟩) ao1 n n n c1 w3 (row_tt (unhide HXA3)) ((unhide HTX).up (UpS.ofBelow [] (unhide HB3)) (fun _ _ _ => by simp)) (unhide HN) (unhide HN) (by rw [← unhide HN]; omega)).mono ?_
    rintro e w4 ⟨rfl, hu⟩
    have HU4 : Hid (UpS w w4 []) := (UpS.ofBelow [] (unhide HB3)).trans hu (fun x hx => .inl hx)
    have HXA4 : Hid (w4.ownsRow 0 9 1 (.slice (some ⟨Ra, 0, none⟩) n n) n (d.lies.map str)) := by
      rw [unhide HN]
      exact strs_own ((hu.block Ra (Array.getElem?_eq_some_iff.1 (unhide HXA3)).1 (by simp)).trans (unhide HXA3)) (by rw [← unhide HN]; omega)
    have HXB4 : Hid (w4.heap[Rb]? = some (.cells (strs d.lies) 9 (0, 0))) := (hu.block Rb (Array.getElem?_eq_some_iff.1 (unhide HX3)).1 (by simp)).trans (unhide HX3)
    clear hu HX3 HXA3 HB3 k0
    go_wp2
    go_loopw [7] (fun i wr => ∃ (k : Nat) (ys : List Value), k ≤ n ∧ i = .int .i64 k ∧ Hid (wr.ownsRow 0 9 1 (.slice (some ⟨Ra, 0, none⟩) n n) n ys ∧ (∀ x ∈ ys, ∃ y, x = .string y) ∧ UpS w wr [] ∧ wr.heap[Rb]? = some (.cells (strs d.lies) 9 (0, 0)))) (fun i _ => n - (intOf i).toNat)
    case atStart => exact ⟨0, _, Nat.zero_le _, rfl, unhide HXA4, fun x hx => by obtain ⟨b, _, rfl⟩ := List.mem_map.1 hx; exact ⟨_, rfl⟩, unhide HU4, unhide HXB4⟩
    case round =>
      clear HXA4 HU4 HXB4
      obtain ⟨k, ys, hk, rfl, HI⟩ := hrel
      by_cases hlt : k < n
      · have hki : (k : Int) < (n : Int) := by omega
        obtain ⟨ho, hy, hu, hx4⟩ := unhide HI
        obtain ⟨g, c, x, hv, hx, hc, hz⟩ := ownsRow_cell ho k hlt
        obtain ⟨rfl, rfl⟩ : Ra = g ∧ n = c := by simpa using hv
        obtain ⟨y, rfl⟩ := hy x (List.mem_of_getElem? hx)
        have hix := ixTexts Ra 0 n n k hlt
        rw [Nat.zero_add] at hix
        have HNX : Hid ((wr.setCell ⟨Ra, k, none⟩ (.string ⟨#[126]⟩)).ownsRow 0 9 1 (.slice (some ⟨Ra, 0, none⟩) n n) n (ys.set k (.string ⟨#[126]⟩)) ∧ (∀ x ∈ ys.set k (.string ⟨#[126]⟩), ∃ y, x = .string y) ∧ UpS w (wr.setCell ⟨Ra, k, none⟩ (.string ⟨#[126]⟩)) [] ∧ (wr.setCell ⟨Ra, k, none⟩ (.string ⟨#[126]⟩)).heap[Rb]? = some (.cells (strs d.lies) 9 (0, 0))) :=
          ⟨ownsRow_set ho k _, fun x hx => (List.mem_or_eq_of_mem_set hx).elim (hy x) (fun h => ⟨_, h⟩), hu.setCell (.inr (unhide HRa)) _, (Deep.blk_setCell_other wr ⟨Ra, k, none⟩ _ Rb (Ne.symm (unhide HRb).2)).trans hx4⟩
        clear ho hy hu hv hx HI hx4
        go_wp2
        go_roundw
        case rel => exact ⟨k + 1, _, by omega, by go_num, HNX⟩
        case measure => simp [intOf]; omega
      · have hkk : n = k := by omega
        subst hkk
        obtain ⟨i0, hi, hz0, hz1, hz2⟩ := info_parts infoStr
        go_wp2
        go_loopw [5, 8] (fun v i wr => ∃ (j : Nat) (ys : List Value), j ≤ 20 ∧ i = .int .i64 j ∧ Hid (wr.ownsRow 0 9 1 v (n + j) ys ∧ (∀ k, v.ownBlock = some k → w.heap.size ≤ k ∧ k ≠ Rb) ∧ UpS w wr [] ∧ wr.heap[Rb]? = some (.cells (strs d.lies) 9 (0, 0)))) (fun _ i _ => 20 - (intOf i).toNat)
        case atStart => exact ⟨0, ys, Nat.zero_le _, rfl, (unhide HI).1, (fun k hk => by simp [Value.ownBlock] at hk; subst hk; exact ⟨unhide HRa, (unhide HRb).2⟩), (unhide HI).2.2.1, (unhide HI).2.2.2⟩
        case round =>
          clear HI
          obtain ⟨j, zs, hj, rfl, HJ⟩ := hrel
          by_cases hlt2 : j < 20
          · have hji : (j : Int) < 20 := by omega
            obtain ⟨ho, hbv, hu, hxb⟩ := unhide HJ
            obtain ⟨ao3, c3, rfl⟩ := ownsRow_len ho
            have hown : (wr.alloc (.cells #[.string ⟨#[126]⟩] 9)).ownsRow 0 9 1 (.slice ao3 (n + j) c3) (n + j) zs := ownsRow_keep ho fun q hq => Deep.blk_alloc_lt wr _ q (ho.lt q hq).2
            obtain ⟨v', w5, hrun, hown', hgrow, hnew⟩ := run_append_own' (P := Try.prog) (wr.alloc (.cells #[.string ⟨#[126]⟩] 9)) 0 36 36 9 i0 (.string .empty) 1 16 Try.underlying36 hi hz0 hz1 hz2 rfl (by decide) (.slice ao3 (n + j) c3) (n + j) zs hown ⟨wr.heap.size, 0, none⟩ 1 1 [.string ⟨#[126]⟩] rfl (fun j y hy => by
              rw [Addr.add_mid, Nat.zero_add, cell_of_row _ wr.heap.size j _ _ _ (heap_alloc_new wr _)]
              simpa using hy) (fun y hy => by rw [List.mem_singleton.1 hy]; rfl) (by simp only [maxLen]; omega) (by omega) (Nat.zero_le _)
            have hbl := (Array.getElem?_eq_some_iff.1 hxb).1
            have HNX : Hid (w5.ownsRow 0 9 1 v' (n + (j + 1)) (zs ++ [.string ⟨#[126]⟩]) ∧ (∀ k, v'.ownBlock = some k → w.heap.size ≤ k ∧ k ≠ Rb) ∧ UpS w w5 [] ∧ w5.heap[Rb]? = some (.cells (strs d.lies) 9 (0, 0))) :=
              ⟨hown', fun k hk => by
                rcases hnew with h | ⟨g, h1, h2⟩
                · exact hbv k (h ▸ hk)
                · rw [hk] at h1; cases h1; have := hu.size; simp at h2; exact ⟨by omega, by omega⟩, (hu.alloc _).trans (UpS.ofGrown (F := (Value.slice ao3 (n + j) c3).ownBlock.toList) hgrow (fun q hq => .inl (by simp [hq]))) (fun x hx => .inr (hbv x (mem_toList hx)).1),
                (hgrow.block Rb (by simp; omega) (fun e => (hbv Rb e.symm).2 rfl)).trans ((Deep.blk_alloc_lt wr _ Rb hbl).trans hxb)⟩
            obtain ⟨ao4, c4, rfl⟩ := ownsRow_len hown'
            clear hown hown' hgrow hnew ho hu hbv HJ hxb hbl
            go_wp2_with (at_builtin; refine append_to (by rfl) (.tmp 57) (.tmp 58) 36 36 (by rfl) (some 59) (by rfl) 36 (by rfl) _ _ (by rfl) (by rfl) _ _ hrun ?_; simp only [Act.put, List.setIfInBounds_toArray, List.set_cons_zero, List.set_cons_succ])
            go_roundw
            case rel => exact ⟨j + 1, _, by omega, by go_num, HNX⟩
            case measure => simp [intOf]; omega
          · have hjj : j = 20 := by omega
            subst hjj
            obtain ⟨ho, hbv, hu, hxb⟩ := unhide HJ
            obtain ⟨ao3, c3, rfl⟩ := ownsRow_len ho
            have k0 : wr.cell? ⟨M, 0, none⟩ = _ := (hu.cell (p := ⟨M, 0, none⟩) (unhide HRT) (by simp)).trans (unhide HK0)
            have hni : (n : Int) ≤ 4096 := by omega
            have HSM := hide (lSameM d.lies (some ⟨Rb, 0, none⟩) ao1 n n n c1 wr (row_tt hxb) ((unhide HTX).up hu (fun _ _ _ => by simp)) (unhide HN) (unhide HN) (by rw [← unhide HN]; omega))
            have HUU := hide hu
            clear ho hbv hu hxb HJ
            go_wp2_with fail
            refine (unhide HSM).mono ?_
            rintro e w6 ⟨rfl, hu⟩
            have HU6 : Hid (UpS w w6 []) := (unhide HUU).trans hu (fun x hx => .inl hx)
            clear hu
            go_wp2
            go_ret
            exact ⟨rfl, unhide HU6⟩
end
end Go.Proofs.Ytfdibmbffmgikaa
