/- The document's words of a block. -/
import Derived.Test.YtpbifpbblinopaaShS
namespace Go.Proofs.Ytpbifpbblinopaa
open Go.RowKit

theorem keepc {w : World} {r a k n : Nat} {v y : Value} (h : w.cell? ⟨r, a, none⟩ = some y) (hne : ¬ (k = a)) : ((w.drewN n).setCell ⟨r, k, none⟩ v).cell? ⟨r, a, none⟩ = some y := by
  rw [World.cell?_setCell_other _ _ _ _ (fun e => hne (by cases e; rfl))]
  exact h
set_option maxRecDepth 100000 in
set_option maxHeartbeats 1000000 in
theorem mWords (b : Nat → Nat) (hb : ∀ j, b j < 256) (g off cap : Nat) (w : World) (hg : g < w.heap.size) (hc : ∀ j, j < 64 → w.cell? ⟨g, off + j, none⟩ = some (.int .u8 (b j : Nat))) :
    Calls Try.prog 49 #[.slice (some ⟨g, off, none⟩) 64 cap] w fun e w' => (∃ cs, e = .returned (.agg cs) ∧ Is32 cs 64 (Sha.wd b)) ∧ Below w.heap.size w w' := by
  have HC := hide hc
  have HB := hide hb
  clear hc hb
  go_enter Try.func49, Try.ntmps49
  go_wp2
  go_loopw [4] (fun i wr => ∃ k : Nat, ∃ ts : Array Value, k ≤ 64 ∧ i = .int .i64 k ∧ Hid (Rw (Sha.wd b) w wr (w.heap.size + 1) k ts) ∧ Hid (∃ zs : Array Value, zs.size = 64 ∧ wr.heap[w.heap.size]? = some (.cells zs 62 (0, 0)))) (fun i _ => 64 - (intOf i).toNat)
  case atStart =>
    exact ⟨0, _, Nat.zero_le _, rfl, hide (Rw.start2 (Sha.wd b) w _ _ rfl rfl).1, hide (Rw.start2 (Sha.wd b) w _ _ rfl rfl).2⟩
  case round =>
    obtain ⟨k, ts, hk, rfl, HI, HZ⟩ := hrel
    by_cases hlt : k < 64
    · by_cases h16 : k < 16
      · obtain ⟨j0, hj0⟩ : ∃ j, j = 4 * k := ⟨_, rfl⟩
        obtain ⟨j1, hj1⟩ : ∃ j, j = 4 * k + 1 := ⟨_, rfl⟩
        obtain ⟨j2, hj2⟩ : ∃ j, j = 4 * k + 2 := ⟨_, rfl⟩
        obtain ⟨j3, hj3⟩ : ∃ j, j = 4 * k + 3 := ⟨_, rfl⟩
        have e0 : IntKind.i64.wrap (4 * (k : Int)) = (j0 : Int) := by rw [IntKind.wrap_i64]; omega
        have e1 : IntKind.i64.wrap ((j0 : Int) + 1) = (j1 : Int) := by rw [IntKind.wrap_i64]; omega
        have e2 : IntKind.i64.wrap ((j0 : Int) + 2) = (j2 : Int) := by rw [IntKind.wrap_i64]; omega
        have e3 : IntKind.i64.wrap ((j0 : Int) + 3) = (j3 : Int) := by rw [IntKind.wrap_i64]; omega
        have hq0 : (j0 : Int) < 64 := by omega
        have hq1 : (j1 : Int) < 64 := by omega
        have hq2 : (j2 : Int) < 64 := by omega
        have hq3 : (j3 : Int) < 64 := by omega
        have c0 : wr.cell? ⟨g, off + j0, none⟩ = some (.int .u8 (b j0 : Nat)) := ((unhide HI).bel.cell (p := ⟨g, off + j0, none⟩) hg).trans (unhide HC j0 (by omega))
        have c1 : wr.cell? ⟨g, off + j1, none⟩ = some (.int .u8 (b j1 : Nat)) := ((unhide HI).bel.cell (p := ⟨g, off + j1, none⟩) hg).trans (unhide HC j1 (by omega))
        have c2 : wr.cell? ⟨g, off + j2, none⟩ = some (.int .u8 (b j2 : Nat)) := ((unhide HI).bel.cell (p := ⟨g, off + j2, none⟩) hg).trans (unhide HC j2 (by omega))
        have c3 : wr.cell? ⟨g, off + j3, none⟩ = some (.int .u8 (b j3 : Nat)) := ((unhide HI).bel.cell (p := ⟨g, off + j3, none⟩) hg).trans (unhide HC j3 (by omega))
        have hV : Sha.wd b k = b j0 * 16777216 + b j1 * 65536 + b j2 * 256 + b j3 := by rw [Sha.wd_first b k h16, Sha.be, hj0, hj1, hj2, hj3]
        obtain ⟨v0, hv0⟩ := (unhide HI).cell' hlt
        have hfz := (unhide HI).frozen k
        have HV := hide hV
        have HB4 : Hid (b j0 < 256 ∧ b j1 < 256 ∧ b j2 < 256 ∧ b j3 < 256) := ⟨unhide HB _, unhide HB _, unhide HB _, unhide HB _⟩
        clear hj0 hj1 hj2 hj3 hV
        generalize b j0 = x0 at *
        generalize b j1 = x1 at *
        generalize b j2 = x2 at *
        generalize b j3 = x3 at *
        have hne : g ≠ w.heap.size + 1 := by omega
        have hne' : ¬ (w.heap.size + 1 = g) := by omega
        go_wp2
        go_region_held3 (fun u => u.cell? ⟨g, off + j0, none⟩ = some (.int .u8 x0) ∧ u.cell? ⟨g, off + j1, none⟩ = some (.int .u8 x1) ∧ u.cell? ⟨g, off + j2, none⟩ = some (.int .u8 x2) ∧ u.cell? ⟨g, off + j3, none⟩ = some (.int .u8 x3)) (first | (go_keep; done)) (fail)
        go_wp2
        go_roundw
        case rel =>
          refine ⟨k + 1, _, by omega, by go_num, hide ((unhide HI).next _ ?_ hlt _), ?_⟩
          · obtain ⟨h0, h1, h2, h3⟩ := unhide HB4
            rw [unhide HV]
            congr 1
            try simp only [IntKind.wrap_u32]
            omega
          · obtain ⟨zs, hz1, hz2⟩ := unhide HZ
            refine hide ⟨zs, hz1, ?_⟩
            show (World.setCell _ _ _).heap[_]? = _
            rw [Deep.blk_setCell_other _ _ _ _ (by simp)]
            exact hz2
        case measure => simp [intOf]; omega
      · obtain ⟨a16, ha16⟩ : ∃ j, j = k - 16 := ⟨_, rfl⟩
        obtain ⟨a15, ha15⟩ : ∃ j, j = k - 15 := ⟨_, rfl⟩
        obtain ⟨a7, ha7⟩ : ∃ j, j = k - 7 := ⟨_, rfl⟩
        obtain ⟨a2, ha2⟩ : ∃ j, j = k - 2 := ⟨_, rfl⟩
        have p15 : (k : Int) - 15 = (a15 : Int) := by omega
        have p2 : (k : Int) - 2 = (a2 : Int) := by omega
        have p16 : (k : Int) - 16 = (a16 : Int) := by omega
        have p7 : (k : Int) - 7 = (a7 : Int) := by omega
        have r16 : IntKind.i64.wrap (a16 : Int) = (a16 : Int) := by rw [IntKind.wrap_i64]; omega
        have r7 : IntKind.i64.wrap (a7 : Int) = (a7 : Int) := by rw [IntKind.wrap_i64]; omega
        have hq16 : (a16 : Int) < 64 := by omega
        have hq15 : (a15 : Int) < 64 := by omega
        have hq7 : (a7 : Int) < 64 := by omega
        have hq2 : (a2 : Int) < 64 := by omega
        have c16 := (unhide HI).cell (j := a16) (by omega)
        have c15 := (unhide HI).cell (j := a15) (by omega)
        have c7 := (unhide HI).cell (j := a7) (by omega)
        have c2 := (unhide HI).cell (j := a2) (by omega)
        have n16 : ¬ (k = a16) := by omega
        have n7 : ¬ (k = a7) := by omega
        have n16' : ¬ (a16 = k) := by omega
        have n7' : ¬ (a7 = k) := by omega
        have hV : Sha.wd b k = (Sha.wd b a16 + Sha.s0 (Sha.wd b a15) + Sha.wd b a7 + Sha.s1 (Sha.wd b a2)) % 4294967296 := by rw [Sha.wd_next b k (by omega), ha16, ha15, ha7, ha2]
        have HV := hide hV
        have HL4 : Hid (Sha.wd b a16 < 4294967296 ∧ Sha.wd b a7 < 4294967296) := ⟨Sha.wd_lt b (unhide HB) _, Sha.wd_lt b (unhide HB) _⟩
        have hl15 := Sha.wd_lt b (unhide HB) a15
        have hl2 := Sha.wd_lt b (unhide HB) a2
        clear hV ha16 ha15 ha7 ha2
        generalize Sha.wd b a16 = y16 at *
        generalize Sha.wd b a15 = y15 at *
        generalize Sha.wd b a7 = y7 at *
        generalize Sha.wd b a2 = y2 at *
        obtain ⟨A, hA⟩ : ∃ A, A = Sha.rot y15 7 ^^^ Sha.rot y15 18 := ⟨_, rfl⟩
        obtain ⟨B, hB⟩ : ∃ A, A = Sha.rot y2 17 ^^^ Sha.rot y2 19 := ⟨_, rfl⟩
        obtain ⟨Z0, hZ0⟩ : ∃ A, A = Sha.s0 y15 := ⟨_, rfl⟩
        obtain ⟨Z1, hZ1⟩ : ∃ A, A = Sha.s1 y2 := ⟨_, rfl⟩
        have ea : bits .xor .u32 ((Sha.rot y15 7 : Nat) : Int) ((Sha.rot y15 18 : Nat) : Int) = (A : Int) := by rw [hA, x32 _ _ (Sha.rot_lt _ _ hl15) (Sha.rot_lt _ _ hl15)]
        have eb : bits .xor .u32 ((Sha.rot y2 17 : Nat) : Int) ((Sha.rot y2 19 : Nat) : Int) = (B : Int) := by rw [hB, x32 _ _ (Sha.rot_lt _ _ hl2) (Sha.rot_lt _ _ hl2)]
        have ec : bits .xor .u32 (A : Int) ((y15 : Int) / 8) = (Z0 : Int) := by
          rw [hZ0, hA, show (y15 : Int) / 8 = ((y15 / 8 : Nat) : Int) from by omega, x32 _ _ (xor_lt (Sha.rot_lt _ _ hl15) (Sha.rot_lt _ _ hl15)) (by omega)]; rfl
        have ed : bits .xor .u32 (B : Int) ((y2 : Int) / 1024) = (Z1 : Int) := by
          rw [hZ1, hB, show (y2 : Int) / 1024 = ((y2 / 1024 : Nat) : Int) from by omega, x32 _ _ (xor_lt (Sha.rot_lt _ _ hl2) (Sha.rot_lt _ _ hl2)) (by omega)]; rfl
        rw [← hZ0, ← hZ1] at HV
        have HZ0 : Hid (Z0 < 4294967296 ∧ Z1 < 4294967296) := by rw [hZ0, hZ1]; exact ⟨Sha.s0_lt hl15, Sha.s1_lt hl2⟩
        have M1 : Hid (∀ u, Calls Try.prog 50 #[.int .u32 y15, .int .i64 7] u fun e w' => e = .returned (.int .u32 (Sha.rot y15 7 : Nat)) ∧ ∃ k, w' = u.drewN k) := hide (fun u => mRight y15 7 u hl15 (by decide) (by decide))
        have M2 : Hid (∀ u, Calls Try.prog 50 #[.int .u32 y15, .int .i64 18] u fun e w' => e = .returned (.int .u32 (Sha.rot y15 18 : Nat)) ∧ ∃ k, w' = u.drewN k) := hide (fun u => mRight y15 18 u hl15 (by decide) (by decide))
        have M3 : Hid (∀ u, Calls Try.prog 50 #[.int .u32 y2, .int .i64 17] u fun e w' => e = .returned (.int .u32 (Sha.rot y2 17 : Nat)) ∧ ∃ k, w' = u.drewN k) := hide (fun u => mRight y2 17 u hl2 (by decide) (by decide))
        have M4 : Hid (∀ u, Calls Try.prog 50 #[.int .u32 y2, .int .i64 19] u fun e w' => e = .returned (.int .u32 (Sha.rot y2 19 : Nat)) ∧ ∃ k, w' = u.drewN k) := hide (fun u => mRight y2 19 u hl2 (by decide) (by decide))
        obtain ⟨v0, hv0⟩ := (unhide HI).cell' hlt
        have hfz := (unhide HI).frozen k
        clear hA hB hZ0 hZ1 hl15 hl2
        go_wp2
        go_region_held3 (fun u => u.cell? ⟨w.heap.size + 1, a16, none⟩ = some (.int .u32 y16) ∧ u.cell? ⟨w.heap.size + 1, a7, none⟩ = some (.int .u32 y7)) (first | (go_keep; done) | exact ⟨keepc c16 n16, keepc c7 n7⟩) (first | (go_at_call 50; first | (with_reducible refine (unhide M1 _).mono ?_; rintro e w1 ⟨rfl, n, rfl⟩) | (with_reducible refine (unhide M2 _).mono ?_; rintro e w1 ⟨rfl, n, rfl⟩) | (with_reducible refine (unhide M3 _).mono ?_; rintro e w1 ⟨rfl, n, rfl⟩) | (with_reducible refine (unhide M4 _).mono ?_; rintro e w1 ⟨rfl, n, rfl⟩)))
        go_wp2
        go_roundw
        case rel =>
          refine ⟨k + 1, _, by omega, by go_num, hide ((unhide HI).next _ ?_ hlt _), ?_⟩
          · rw [unhide HV]
            congr 1
            try simp only [IntKind.wrap_u32]
            have := unhide HL4
            have := unhide HZ0
            omega
          · obtain ⟨zs, hz1, hz2⟩ := unhide HZ
            refine hide ⟨zs, hz1, ?_⟩
            show (World.setCell _ _ _).heap[_]? = _
            rw [Deep.blk_setCell_other _ _ _ _ (by simp)]
            exact hz2
        case measure => simp [intOf]; omega
    · have hkk : k = 64 := by omega
      subst hkk
      obtain ⟨zs, h3, h4⟩ := unhide HZ
      have h6 := (unhide HI).row
      have h1 := (unhide HI).size
      have hu := Try.underlying62
      have hi : (Try.prog.info? 62).map (·.size) = some ts.size := by rw [infoW, h1]
      go_wp2_with (first | (refine wpList_load_row rfl 62 (.tmp 3) rfl (w.heap.size + 1) rfl 62 ts (0, 0) _ h6 hu rfl hi ?_) | (refine wpList_store_row rfl 62 (.tmp 2) (.tmp 85) rfl w.heap.size ts rfl rfl 62 zs h4 hi (by rw [h3, h1]) (unhide HI).is.one ?_))
      refine bodyPost_ret (results_cell_row rfl _ _ w.heap.size 62 ts (0, 0) _ rfl (heapRow_same h4 ts) hu rfl hi) rfl ?_
      exact ⟨⟨ts, rfl, (unhide HI).is⟩, belowRow (unhide HI).bel (by omega) _⟩
end Go.Proofs.Ytpbifpbblinopaa
