/- What a block makes of a state: the program's. -/
import Derived.Test.YtpbifpbblinopaaShP
import Derived.Test.YtpbifpbblinopaaShQ
import Derived.Deep.QuietTactic
namespace Go.Proofs.Ytpbifpbblinopaa
open Go.RowKit

theorem dTurnedI (x : Nat) (n : Int) (m : Nat) (hm : n = (m : Int)) (w : World) (hx : x < 4294967296) (hn : m < 32) (hn0 : 0 < m) :
    Calls Try.prog 52 #[.int .u32 x, .int .u64 n] w fun e w' => e = .returned (.int .u32 (Sha.rot x m : Nat)) ∧ w' = w := by
  subst hm; exact dTurned x m w hx hn hn0
set_option maxRecDepth 100000 in
set_option maxHeartbeats 2000000 in
theorem dMixed (b : Nat → Nat) (hb : ∀ j, b j < 256) (s : Sha.St) (hs : Ok s) (cs : Array Value) (hcs : Is8 cs 64 b) (tb : Nat) (w : World) (htb : tb < w.heap.size) (ht : ∀ i, i < 64 → w.cell? ⟨tb, i, none⟩ = some (.int .u32 (Sha.K.getD i 0 : Nat))) :
    Calls Try.prog 41 #[.agg (St8 s), .agg cs, .pointer (some ⟨tb, 0, none⟩)] w fun e w' => e = .returned (.agg (St8 (Sha.add s (Sha.rnd b s 64)))) ∧ Below w.heap.size w w' := by
  have HS := hide hs
  have HB := hide hb
  have HC := hide hcs
  have HT := hide ht
  have hi1 : (Try.prog.info? 65).map (·.size) = some cs.size := by rw [infoB, hcs.size]
  have hu1 := Try.underlying65
  clear hs hb hcs ht
  go_enter Try.func41, Try.ntmps41
  go_wp2_with (first | (refine wpList_load_row rfl 65 (.tmp 4) rfl (w.heap.size + 1) rfl 65 cs (0, 0) _ (by rw [Deep.blk_alloc_lt _ _ _ (by simp)]; simpa using heap_alloc_new (w.alloc (.cells (St8 s) 23)) (.cells cs 65)) hu1 rfl hi1 ?_))
  refine (dSpread b (unhide HB) cs (unhide HC) _).mono ?_
  rintro e w1 ⟨⟨ws, rfl, hws⟩, hbel⟩
  have HM := hide (Mx.make b s w w1 tb #[.int .u32 0, .int .u32 0, .int .u32 0, .int .u32 0, .int .u32 0, .int .u32 0, .int .u32 0, .int .u32 0] ws #[.int .u32 0, .int .u32 0, .int .u32 0, .int .u32 0, .int .u32 0, .int .u32 0, .int .u32 0, .int .u32 0, .int .u32 0, .int .u32 0, .int .u32 0, .int .u32 0, .int .u32 0, .int .u32 0, .int .u32 0, .int .u32 0, .int .u32 0, .int .u32 0, .int .u32 0, .int .u32 0, .int .u32 0, .int .u32 0, .int .u32 0, .int .u32 0, .int .u32 0, .int .u32 0, .int .u32 0, .int .u32 0, .int .u32 0, .int .u32 0, .int .u32 0, .int .u32 0, .int .u32 0, .int .u32 0, .int .u32 0, .int .u32 0, .int .u32 0, .int .u32 0, .int .u32 0, .int .u32 0, .int .u32 0, .int .u32 0, .int .u32 0, .int .u32 0, .int .u32 0, .int .u32 0, .int .u32 0, .int .u32 0, .int .u32 0, .int .u32 0, .int .u32 0, .int .u32 0, .int .u32 0, .int .u32 0, .int .u32 0, .int .u32 0, .int .u32 0, .int .u32 0, .int .u32 0, .int .u32 0, .int .u32 0, .int .u32 0, .int .u32 0, .int .u32 0] _ rfl hws htb (unhide HT) hbel)
  have hi2 : (Try.prog.info? 62).map (·.size) = some ws.size := by rw [infoW, hws.size]
  have hws1 := hws.one
  have hws2 := hws.size
  clear hbel hws hi1 hu1
  go_wp2_with (first | (refine wpList_store_row rfl 62 (.tmp 7) (.tmp 23) rfl w1.heap.size ws rfl rfl 62 #[.int .u32 0, .int .u32 0, .int .u32 0, .int .u32 0, .int .u32 0, .int .u32 0, .int .u32 0, .int .u32 0, .int .u32 0, .int .u32 0, .int .u32 0, .int .u32 0, .int .u32 0, .int .u32 0, .int .u32 0, .int .u32 0, .int .u32 0, .int .u32 0, .int .u32 0, .int .u32 0, .int .u32 0, .int .u32 0, .int .u32 0, .int .u32 0, .int .u32 0, .int .u32 0, .int .u32 0, .int .u32 0, .int .u32 0, .int .u32 0, .int .u32 0, .int .u32 0, .int .u32 0, .int .u32 0, .int .u32 0, .int .u32 0, .int .u32 0, .int .u32 0, .int .u32 0, .int .u32 0, .int .u32 0, .int .u32 0, .int .u32 0, .int .u32 0, .int .u32 0, .int .u32 0, .int .u32 0, .int .u32 0, .int .u32 0, .int .u32 0, .int .u32 0, .int .u32 0, .int .u32 0, .int .u32 0, .int .u32 0, .int .u32 0, .int .u32 0, .int .u32 0, .int .u32 0, .int .u32 0, .int .u32 0, .int .u32 0, .int .u32 0, .int .u32 0] (heap_alloc_new _ _) hi2 (by rw [hws2]; rfl) hws1 ?_))
  clear hi2 hws1 hws2
  generalize (w1.alloc (.cells #[.int .u32 0, .int .u32 0, .int .u32 0, .int .u32 0, .int .u32 0, .int .u32 0, .int .u32 0, .int .u32 0, .int .u32 0, .int .u32 0, .int .u32 0, .int .u32 0, .int .u32 0, .int .u32 0, .int .u32 0, .int .u32 0, .int .u32 0, .int .u32 0, .int .u32 0, .int .u32 0, .int .u32 0, .int .u32 0, .int .u32 0, .int .u32 0, .int .u32 0, .int .u32 0, .int .u32 0, .int .u32 0, .int .u32 0, .int .u32 0, .int .u32 0, .int .u32 0, .int .u32 0, .int .u32 0, .int .u32 0, .int .u32 0, .int .u32 0, .int .u32 0, .int .u32 0, .int .u32 0, .int .u32 0, .int .u32 0, .int .u32 0, .int .u32 0, .int .u32 0, .int .u32 0, .int .u32 0, .int .u32 0, .int .u32 0, .int .u32 0, .int .u32 0, .int .u32 0, .int .u32 0, .int .u32 0, .int .u32 0, .int .u32 0, .int .u32 0, .int .u32 0, .int .u32 0, .int .u32 0, .int .u32 0, .int .u32 0, .int .u32 0, .int .u32 0] 62)).setRow w1.heap.size ws = W2 at HM ⊢
  generalize w1.heap.size = m at HM ⊢
  have g0 := (unhide HM).cell 0 (by decide)
  have g1 := (unhide HM).cell 1 (by decide)
  have g2 := (unhide HM).cell 2 (by decide)
  have g3 := (unhide HM).cell 3 (by decide)
  have g4 := (unhide HM).cell 4 (by decide)
  have g5 := (unhide HM).cell 5 (by decide)
  have g6 := (unhide HM).cell 6 (by decide)
  have g7 := (unhide HM).cell 7 (by decide)
  go_quiet (fail)
  clear g0 g1 g2 g3 g4 g5 g6 g7
  go_wp2
  go_loopw [8, 9, 10, 11, 12, 13, 14, 15, 41] (fun va vb vc vd ve vf vg vh vi wr => ∃ (k a1 b1 c1 d1 e1 f1 g1 h1 : Nat), k ≤ 64 ∧ va = .int .u32 a1 ∧ vb = .int .u32 b1 ∧ vc = .int .u32 c1 ∧ vd = .int .u32 d1 ∧ ve = .int .u32 e1 ∧ vf = .int .u32 f1 ∧ vg = .int .u32 g1 ∧ vh = .int .u32 h1 ∧ vi = .int .i64 k ∧ Hid (Sha.rnd b s k = ⟨a1, b1, c1, d1, e1, f1, g1, h1⟩) ∧ Hid (Mx b s w wr m tb #[.int .u32 0, .int .u32 0, .int .u32 0, .int .u32 0, .int .u32 0, .int .u32 0, .int .u32 0, .int .u32 0])) (fun _ _ _ _ _ _ _ _ vi _ => 64 - (intOf vi).toNat)
  case atStart => exact ⟨0, s.a, s.b, s.c, s.d, s.e, s.f, s.g, s.h, by omega, rfl, rfl, rfl, rfl, rfl, rfl, rfl, rfl, rfl, rfl, hide ((unhide HM).drewN _)⟩
  case round =>
    clear HM
    obtain ⟨k, a1, b1, c1, d1, e1, f1, g1, h1, hk, rfl, rfl, rfl, rfl, rfl, rfl, rfl, rfl, rfl, HR, HM⟩ := hrel
    have hok : Ok ⟨a1, b1, c1, d1, e1, f1, g1, h1⟩ := by rw [← unhide HR]; exact (unhide HS).rnd b k
    by_cases hlt : k < 64
    · have ha := hok.a
      have hb := hok.b
      have hc := hok.c
      have hd := hok.d
      have he := hok.e
      have hf := hok.f
      have hg := hok.g
      have hh := hok.h
      simp only at ha hb hc hd he hf hg hh
      have cw := (unhide HM).wo k hlt
      have ct := (unhide HM).tab k hlt
      have HL : Hid (Sha.wd b k < 4294967296 ∧ Sha.K.getD k 0 < 4294967296) := ⟨Sha.wd_lt b (unhide HB) k, K_lt k⟩
      have HN : Hid (Sha.rnd b s (k + 1) = Sha.rstep ⟨a1, b1, c1, d1, e1, f1, g1, h1⟩ (Sha.K.getD k 0) (Sha.wd b k)) := by
        show Sha.rstep (Sha.rnd b s k) _ _ = _
        rw [unhide HR]
      obtain ⟨A1, B1, C1, D1, E1, F1, ⟨p1, p2, p3, p4, p5, p6⟩, H1⟩ := Rd1.make e1 f1 g1 he hf hg
      obtain ⟨A2, B2, C2, D2, E2, G2, F2, ⟨q1, q2, q3, q4, q5, q6, q7⟩, H2⟩ := Rd2.make a1 b1 c1 ha hb hc
      have hki : (k : Int) < 64 := by omega
      have T1 : Hid (∀ u, Calls Try.prog 52 #[.int .u32 e1, .int .u64 6] u fun e w' => e = .returned (.int .u32 (Sha.rot e1 6 : Nat)) ∧ w' = u) := hide fun u => dTurned e1 6 u he (by decide) (by decide)
      have T2 : Hid (∀ u, Calls Try.prog 52 #[.int .u32 e1, .int .u64 11] u fun e w' => e = .returned (.int .u32 (Sha.rot e1 11 : Nat)) ∧ w' = u) := hide fun u => dTurned e1 11 u he (by decide) (by decide)
      have T3 : Hid (∀ u, Calls Try.prog 52 #[.int .u32 e1, .int .u64 25] u fun e w' => e = .returned (.int .u32 (Sha.rot e1 25 : Nat)) ∧ w' = u) := hide fun u => dTurned e1 25 u he (by decide) (by decide)
      have T4 : Hid (∀ u, Calls Try.prog 52 #[.int .u32 a1, .int .u64 2] u fun e w' => e = .returned (.int .u32 (Sha.rot a1 2 : Nat)) ∧ w' = u) := hide fun u => dTurned a1 2 u ha (by decide) (by decide)
      have T5 : Hid (∀ u, Calls Try.prog 52 #[.int .u32 a1, .int .u64 13] u fun e w' => e = .returned (.int .u32 (Sha.rot a1 13 : Nat)) ∧ w' = u) := hide fun u => dTurned a1 13 u ha (by decide) (by decide)
      have T6 : Hid (∀ u, Calls Try.prog 52 #[.int .u32 a1, .int .u64 22] u fun e w' => e = .returned (.int .u32 (Sha.rot a1 22 : Nat)) ∧ w' = u) := hide fun u => dTurned a1 22 u ha (by decide) (by decide)
      have HO : Hid (B1 < 4294967296 ∧ F1 < 4294967296 ∧ B2 < 4294967296 ∧ F2 < 4294967296) := by
        rw [(unhide H1).1, (unhide H1).2, (unhide H2).1, (unhide H2).2]
        exact ⟨xor_lt (xor_lt (Sha.rot_lt _ _ he) (Sha.rot_lt _ _ he)) (Sha.rot_lt _ _ he), xor_lt (and_lt he) (and_lt (by omega)), xor_lt (xor_lt (Sha.rot_lt _ _ ha) (Sha.rot_lt _ _ ha)) (Sha.rot_lt _ _ ha), xor_lt (xor_lt (and_lt ha) (and_lt ha)) (and_lt hb)⟩
      generalize Sha.wd b k = y at *
      generalize Sha.K.getD k 0 = q at *
      have HA : Hid (d1 < 4294967296 ∧ h1 < 4294967296) := ⟨hd, hh⟩
      clear hok ha hb hc hd he hf hg hh
      go_wp2
      go_quiet (fail)
      have HM2 := hide ((unhide HM).drewN nq)
      have cw2 : (wr.drewN nq).cell? ⟨m, k, none⟩ = some (.int .u32 y) := cw
      clear cw ct HM
      generalize wr.drewN nq = W3 at *
      go_wp2
      go_quiet (first | (go_at_call 52; with_reducible exact Calls.quiet_of_same (unhide T1 _)) | (go_at_call 52; with_reducible exact Calls.quiet_of_same (unhide T2 _)) | (go_at_call 52; with_reducible exact Calls.quiet_of_same (unhide T3 _)))
      go_wp2_with fail
      refine (unhide T4 _).mono ?_
      rintro e w2 ⟨rfl, rfl⟩
      go_wp2_with fail
      refine (unhide T5 _).mono ?_
      rintro e w2 ⟨rfl, rfl⟩
      go_wp2_with fail
      refine (unhide T6 _).mono ?_
      rintro e w2 ⟨rfl, rfl⟩
      go_wp2
      go_roundw
      case rel =>
        refine ⟨k + 1, (Sha.rstep ⟨a1, b1, c1, d1, e1, f1, g1, h1⟩ q y).a, a1, b1, c1, (Sha.rstep ⟨a1, b1, c1, d1, e1, f1, g1, h1⟩ q y).e, e1, f1, g1, by omega, ?_, rfl, rfl, rfl, ?_, rfl, rfl, rfl, by go_num, ?_, hide ((unhide HM2).drewN _)⟩
        · have e1' := unhide H1
          have h2 := unhide H2
          have h3 := unhide HO
          have h4 := unhide HA
          have h5 := unhide HL
          show Value.int _ _ = Value.int _ (((((h1 + Sha.S1 e1 + Sha.ch e1 f1 g1 + q + y) % 4294967296 + (Sha.S0 a1 + Sha.maj a1 b1 c1) % 4294967296) % 4294967296 : Nat)) : Int)
          rw [← e1'.1, ← e1'.2, ← h2.1, ← h2.2]
          congr 1
          try simp only [IntKind.wrap_u32]
          omega
        · have e1' := unhide H1
          have h3 := unhide HO
          have h4 := unhide HA
          have h5 := unhide HL
          show Value.int _ _ = Value.int _ ((((d1 + (h1 + Sha.S1 e1 + Sha.ch e1 f1 g1 + q + y) % 4294967296) % 4294967296 : Nat)) : Int)
          rw [← e1'.1, ← e1'.2]
          congr 1
          try simp only [IntKind.wrap_u32]
          omega
        · exact hide (unhide HN)
      case measure => simp [intOf]; omega
    · have hkk : k = 64 := by omega
      subst hkk
      clear hk hlt
      have HZ := hide (unhide HM).res
      have HI : Hid (R8 (su s ⟨a1, b1, c1, d1, e1, f1, g1, h1⟩ 0) w wr w.heap.size (St8 s)) := ⟨⟨rfl, fun j hj => by rw [St8_at s j hj]; rfl⟩, (unhide HM).st, Nat.le_refl _, (unhide HM).bel⟩
      have HO := hide hok
      clear hok HM
      go_wp2
      go_loopw [114] (fun i wr2 => ∃ (k : Nat) (ts : Array Value), k ≤ 8 ∧ i = .int .i64 k ∧ Hid (R8 (su s ⟨a1, b1, c1, d1, e1, f1, g1, h1⟩ k) w wr2 w.heap.size ts) ∧ Hid (wr2.heap[w.heap.size + 1 + 1]? = some (.cells #[.int .u32 0, .int .u32 0, .int .u32 0, .int .u32 0, .int .u32 0, .int .u32 0, .int .u32 0, .int .u32 0] 23 (0, 0)))) (fun i _ => 8 - (intOf i).toNat)
      case atStart => exact ⟨0, _, by omega, rfl, HI, HZ⟩
      case round =>
        clear HI HZ
        obtain ⟨k, ts, hk, rfl, HI, HZ⟩ := hrel
        by_cases hlt : k < 8
        · have hix := run_index_u32 #[.int .u32 a1, .int .u32 b1, .int .u32 c1, .int .u32 d1, .int .u32 e1, .int .u32 f1, .int .u32 g1, .int .u32 h1] k (fld ⟨a1, b1, c1, d1, e1, f1, g1, h1⟩ k) wr hlt (St8_at ⟨a1, b1, c1, d1, e1, f1, g1, h1⟩ k hlt)
          have hc := (unhide HI).cell hlt
          rw [su_here] at hc
          have hfz := (unhide HI).frozen k
          have hki : (k : Int) < 8 := by omega
          have HN := hide (fun v hv => (unhide HI).upd0 (f' := su s ⟨a1, b1, c1, d1, e1, f1, g1, h1⟩ (k + 1)) v hv hlt (fun j hj => su_other s _ k j hj))
          have HS8 : Hid (su s ⟨a1, b1, c1, d1, e1, f1, g1, h1⟩ (k + 1) k = (fld s k + fld ⟨a1, b1, c1, d1, e1, f1, g1, h1⟩ k) % 4294967296) := su_same _ _ _
          have hx := fld_lt (unhide HS) k
          have hy := fld_lt (unhide HO) k
          generalize fld ⟨a1, b1, c1, d1, e1, f1, g1, h1⟩ k = y at *
          generalize fld s k = x at *
          go_wp2
          go_roundw
          case rel =>
            refine ⟨k + 1, _, by omega, by go_num, hide (unhide HN _ ?_), hide (heap_set (unhide HZ) (by omega))⟩
            rw [unhide HS8]
            congr 1
          case measure => simp [intOf]; omega
        · have hkk : k = 8 := by omega
          subst hkk
          have h6 := (unhide HI).row
          have h1 := (unhide HI).is.size
          have h4 := unhide HZ
          have hu := Try.underlying23
          have hi : (Try.prog.info? 23).map (·.size) = some ts.size := by rw [info8, h1]
          have hT : ts = St8 (Sha.add s (Sha.rnd b s 64)) := by
            refine Is32.eq8 ⟨h1, fun j hj => ?_⟩
            rw [(unhide HI).is.at' j hj, fld_add s _ j hj, unhide HR]
            unfold su
            rw [if_pos hj]
          go_wp2_with (first | (refine wpList_load_row rfl 23 (.tmp 3) rfl w.heap.size rfl 23 ts (0, 0) _ h6 hu rfl hi ?_) | (refine wpList_store_row rfl 23 (.tmp 6) (.tmp 125) rfl (w.heap.size + 1 + 1) ts rfl rfl 23 #[.int .u32 0, .int .u32 0, .int .u32 0, .int .u32 0, .int .u32 0, .int .u32 0, .int .u32 0, .int .u32 0] h4 hi (by rw [h1]; rfl) (unhide HI).is.one ?_))
          refine bodyPost_ret (results_cell_row rfl _ _ (w.heap.size + 1 + 1) 23 ts (0, 0) _ rfl (heapRow_same h4 ts) hu rfl hi) rfl ?_
          exact ⟨by rw [hT], belowRow (unhide HI).bel (by omega) _⟩
end Go.Proofs.Ytpbifpbblinopaa
