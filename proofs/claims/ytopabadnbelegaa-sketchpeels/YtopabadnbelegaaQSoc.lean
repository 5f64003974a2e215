/- Sorting numbers of 64 bits: siftDown, heapSort. -/
import Derived.Test.YtopabadnbelegaaQSob
namespace Go.Proofs.Ytopabadnbelegaa.K
open Go.RowKit Go.Lib
theorem sd_end (hi first r : Nat) (d : Array (BitVec 64)) (h : 2 * r + 1 ≥ hi) : Sort.siftDown ltB hi first r d = d := by rw [Sort.siftDown, dif_pos h]
theorem So.drew {u w : World} {g : Nat} {t : TypeId} {N : Nat} {d : Array (BitVec 64)} (h : So u w g t N d) : So u w.drew g t N d := ⟨h.rw'.drew, h.alt.drew⟩
theorem quiet_same2 {P : Program} {f : FuncId} {args : Array Value} {w : World} {a n : Nat} {v : Value}
    (h : Calls P f args (w.drewN (a + n)) fun e w' => e = .returned v ∧ w' = w.drewN (a + n)) : Calls P f args (w.drewN (a + n)) fun e w'' => e = .returned v ∧ ∃ m, w'' = w.drewN (a + m) :=
  h.mono fun _ _ ⟨he, hm⟩ => ⟨he, n, hm⟩
/-- the child that is looked at -/
def sdCh (hi first r : Nat) (d : Array (BitVec 64)) : Nat := if 2 * r + 2 < hi ∧ ltB d[first + (2 * r + 1)]! d[first + (2 * r + 2)]! = true then 2 * r + 2 else 2 * r + 1
theorem sd_stop (hi first r : Nat) (d : Array (BitVec 64)) (h : ¬ 2 * r + 1 ≥ hi) (hl : ltB d[first + r]! d[first + sdCh hi first r d]! = false) : Sort.siftDown ltB hi first r d = d := by
  rw [Sort.siftDown, dif_neg h]
  by_cases hc : 2 * r + 2 < hi ∧ ltB d[first + (2 * r + 1)]! d[first + (2 * r + 2)]! = true
  · have e : sdCh hi first r d = 2 * r + 2 := if_pos hc
    rw [e] at hl
    have hc2 : (decide (2 * r + 1 + 1 < hi) && ltB d[first + (2 * r + 1)]! d[first + (2 * r + 1) + 1]!) = true := by
      rw [Bool.and_eq_true, decide_eq_true_eq]; exact ⟨hc.1, hc.2⟩
    rw [hc2]
    simp [hl]
  · have e : sdCh hi first r d = 2 * r + 1 := if_neg hc
    rw [e] at hl
    have hc2 : (decide (2 * r + 1 + 1 < hi) && ltB d[first + (2 * r + 1)]! d[first + (2 * r + 1) + 1]!) = false := by
      rw [Bool.eq_false_iff]; intro q; rw [Bool.and_eq_true, decide_eq_true_eq] at q; exact hc ⟨q.1, q.2⟩
    rw [hc2]
    simp [hl]
theorem sd_go (hi first r : Nat) (d : Array (BitVec 64)) (h : ¬ 2 * r + 1 ≥ hi) (hl : ltB d[first + r]! d[first + sdCh hi first r d]! = true) : Sort.siftDown ltB hi first r d = Sort.siftDown ltB hi first (sdCh hi first r d) (Sort.swp d (first + r) (first + sdCh hi first r d)) := by
  rw [Sort.siftDown, dif_neg h]
  by_cases hc : 2 * r + 2 < hi ∧ ltB d[first + (2 * r + 1)]! d[first + (2 * r + 2)]! = true
  · have e : sdCh hi first r d = 2 * r + 2 := if_pos hc
    rw [e] at hl ⊢
    have hc2 : (decide (2 * r + 1 + 1 < hi) && ltB d[first + (2 * r + 1)]! d[first + (2 * r + 1) + 1]!) = true := by
      rw [Bool.and_eq_true, decide_eq_true_eq]; exact ⟨hc.1, hc.2⟩
    rw [hc2]
    simp [hl, hc.1]
  · have e : sdCh hi first r d = 2 * r + 1 := if_neg hc
    rw [e] at hl ⊢
    have hc2 : (decide (2 * r + 1 + 1 < hi) && ltB d[first + (2 * r + 1)]! d[first + (2 * r + 1) + 1]!) = false := by
      rw [Bool.eq_false_iff]; intro q; rw [Bool.and_eq_true, decide_eq_true_eq] at q; exact hc ⟨q.1, q.2⟩
    rw [hc2]
    simp [hl]
theorem sdCh_two (hi first r : Nat) (d : Array (BitVec 64)) (h : 2 * r + 2 < hi) (hl : ltB d[first + (2 * r + 1)]! d[first + (2 * r + 2)]! = true) : sdCh hi first r d = 2 * r + 2 := if_pos ⟨h, hl⟩
theorem sdCh_one (hi first r : Nat) (d : Array (BitVec 64)) (h : ¬ 2 * r + 2 < hi ∨ ltB d[first + (2 * r + 1)]! d[first + (2 * r + 2)]! = false) : sdCh hi first r d = 2 * r + 1 := by
  unfold sdCh
  rw [if_neg]
  rintro ⟨h1, h2⟩
  rcases h with h | h
  · exact h h1
  · rw [h] at h2; cases h2
set_option maxRecDepth 100000 in
set_option maxHeartbeats 4000000 in
theorem kSift (g c lo hi first n N : Nat) (t : TypeId) (d : Array (BitVec 64)) (u : World) (h : Rw u g t N d) (hn : n = d.size) (hlo : lo ≤ n) (hb : first + hi ≤ n) (hm : n ≤ 17592186044416) : Calls Try.prog 72 #[.slice (some ⟨g, 0, none⟩) n c, .int .i64 (lo : Int), .int .i64 (hi : Int), .int .i64 (first : Int)] u fun e u' => e = .returned (.tuple #[]) ∧ So u u' g t N (Sort.siftDown ltB hi first lo d) := by
  have HI := hide (fun i (hi : i < n) => ixW g n c i hi)
  have HS0 : Hid (So u u g t N d) := ⟨h, Alt.refl _ _⟩
  have hfb : (first : Int) ≤ 17592186044416 := by omega
  have hhb : (hi : Int) ≤ 17592186044416 := by omega
  have hl0 : (lo : Int) ≤ 17592186044416 := by omega
  have HL := hide (fun x y w => kLess x y w)
  have HN := hide hn
  have HB := hide hb
  clear h hn hm hb
  go_enter Try.func72, Try.ntmps72
  go_wp2
  go_loopw [8] (fun s8 wr => ∃ (r : Nat) (dk : Array (BitVec 64)), s8 = .int .i64 (r : Int) ∧ (r : Int) ≤ 17592186044416 ∧ Hid (dk.size = n) ∧ Hid (So u wr g t N dk) ∧ Hid (Sort.siftDown ltB hi first r dk = Sort.siftDown ltB hi first lo d)) (fun s8 _ => hi - (intOf s8).toNat)
  case atStart => exact ⟨lo, d, rfl, hl0, (unhide HN).symm, HS0, rfl⟩
  case round =>
    clear HS0
    obtain ⟨r, dk, rfl, hrb, HZ, HS, HO⟩ := hrel
    by_cases hlt : 2 * r + 1 < hi
    · have hii : ¬ (2 * (r : Int) + 1 ≥ (hi : Int)) := by omega
      have hz0 : first + r < dk.size := by rw [unhide HZ]; have := unhide HB; omega
      have hz1 : first + (2 * r + 1) < dk.size := by rw [unhide HZ]; have := unhide HB; omega
      obtain ⟨c0, f0⟩ := (unhide HS).rw'.cell _ hz0
      obtain ⟨c1, f1⟩ := (unhide HS).rw'.cell _ hz1
      have ix0 := unhide HI (first + r) (by rw [unhide HZ] at hz0; exact hz0)
      have ix1 := unhide HI (first + (2 * r + 1)) (by rw [unhide HZ] at hz1; exact hz1)
      have e0 : ((first + r : Nat) : Int) = (first : Int) + (r : Int) := by omega
      have e1 : ((first + (2 * r + 1) : Nat) : Int) = (first : Int) + (2 * (r : Int) + 1) := by omega
      rw [e0] at ix0
      have hw0 : IntKind.i64.wrap ((first : Int) + (r : Int)) = (first : Int) + (r : Int) := by rw [IntKind.wrap_i64]; omega
      have hw1 : IntKind.i64.wrap ((first : Int) + (2 * (r : Int) + 1)) = (first : Int) + (2 * (r : Int) + 1) := by rw [IntKind.wrap_i64]; omega
      rw [e1] at ix1
      have HZ0 := hide hz0
      have HZY1 := hide hz1
      obtain ⟨y0, hy0⟩ : ∃ y0, y0 = dk[first + r]! := ⟨_, rfl⟩
      obtain ⟨y1, hy1⟩ : ∃ y1, y1 = dk[first + (2 * r + 1)]! := ⟨_, rfl⟩
      rw [← hy0] at c0
      rw [← hy1] at c1
      have HY0 := hide hy0.symm
      have HY1 := hide hy1.symm
      have HGE : Hid (¬ 2 * r + 1 ≥ hi) := by show ¬ _; omega
      clear hy0 hy1 hz0 hz1 e0 e1
      by_cases h2 : 2 * r + 2 < hi
      · have h2i : 2 * (r : Int) + 1 + 1 < (hi : Int) := by omega
        have hz2 : first + (2 * r + 2) < dk.size := by rw [unhide HZ]; have := unhide HB; omega
        obtain ⟨c2, f2⟩ := (unhide HS).rw'.cell _ hz2
        have ix2 := unhide HI (first + (2 * r + 2)) (by rw [unhide HZ] at hz2; exact hz2)
        have e2 : ((first + (2 * r + 2) : Nat) : Int) = (first : Int) + (2 * (r : Int) + 1) + 1 := by omega
        have ix3 := ix2
        have e3 : ((first + (2 * r + 2) : Nat) : Int) = (first : Int) + (2 * (r : Int) + 1 + 1) := by omega
        have hw2 : IntKind.i64.wrap ((first : Int) + (2 * (r : Int) + 1 + 1)) = (first : Int) + (2 * (r : Int) + 1 + 1) := by rw [IntKind.wrap_i64]; omega
        rw [e2] at ix2
        rw [e3] at ix3
        have HZY2 := hide hz2
        obtain ⟨y2, hy2⟩ : ∃ y2, y2 = dk[first + (2 * r + 2)]! := ⟨_, rfl⟩
        rw [← hy2] at c2
        have HY2 := hide hy2.symm
        clear hy2 hz2 e2 e3
        cases hls : ltB y1 y2 with
        | true =>
          have HC1 := sdCh_two hi first r dk h2 (by rw [unhide HY1, unhide HY2]; exact hls)
          have HLS := hide (fun w => unhide HL y1 y2 w)
          rw [hls] at HLS
          have HCC := hide HC1
          clear hls HC1
          go_wp2
          go_quiet (first | exact Calls.quiet_of_same (unhide HLS _) | fail)
          go_wp2
          cases hlt0 : ltB y0 y2 with
          | true =>
            have HGO := hide (sd_go hi first r dk (unhide HGE) (by rw [unhide HCC, unhide HY0, unhide HY2]; exact hlt0))
            rw [unhide HCC] at HGO
            have HLT := hide (fun w => unhide HL y0 y2 w)
            rw [hlt0] at HLT
            have HSW := hide (fun (w : World) (hw : So u w g t N dk) => hw.swap (first + r) (first + (2 * r + 2)) (unhide HZ0) (unhide HZY2))
            rw [unhide HY0, unhide HY2] at HSW
            have HSS : Hid ((Sort.swp dk (first + r) (first + (2 * r + 2))).size = n) := (swp_size _ _ _).trans (unhide HZ)
            have HCH : Hid (2 * r + 2 < hi ∧ r < 2 * r + 2) := ⟨by omega, by omega⟩
            clear hlt0
            go_wp2
            go_quiet (first | exact Calls.quiet_of_same (unhide HLT _) | exact quiet_same2 (unhide HLT _) | fail)
            go_wp2
            go_region
            go_wp2
            go_roundw
            case rel =>
              refine ⟨2 * r + 2, _, ?_, ?_, HSS, unhide HSW _ ?_, (unhide HGO).symm.trans (unhide HO)⟩
              · go_num
              · have := unhide HCH; omega
              · repeat (first | exact unhide HS | apply So.drewN | apply So.drew)
            case measure =>
              have := unhide HCH
              simp [intOf]
              omega
          | false =>
            have HEN : Hid (Sort.siftDown ltB hi first lo d = dk) := by
              show _ = _
              rw [← unhide HO]
              exact sd_stop hi first r dk (unhide HGE) (by rw [unhide HCC, unhide HY0, unhide HY2]; exact hlt0)
            have HLT := hide (fun w => unhide HL y0 y2 w)
            rw [hlt0] at HLT
            clear hlt0
            go_wp2
            go_quiet (first | exact Calls.quiet_of_same (unhide HLT _) | exact quiet_same2 (unhide HLT _) | fail)
            go_wp2
            go_returns
            refine ⟨rfl, ?_⟩
            rw [unhide HEN]
            repeat (first | exact unhide HS | apply So.drewN | apply So.drew)
        | false =>
          have HC1 := sdCh_one hi first r dk (.inr (by rw [unhide HY1, unhide HY2]; exact hls))
          have HLS := hide (fun w => unhide HL y1 y2 w)
          rw [hls] at HLS
          have HCC := hide HC1
          clear hls HC1
          go_wp2
          go_quiet (first | exact Calls.quiet_of_same (unhide HLS _) | fail)
          go_wp2
          cases hlt0 : ltB y0 y1 with
          | true =>
            have HGO := hide (sd_go hi first r dk (unhide HGE) (by rw [unhide HCC, unhide HY0, unhide HY1]; exact hlt0))
            rw [unhide HCC] at HGO
            have HLT := hide (fun w => unhide HL y0 y1 w)
            rw [hlt0] at HLT
            have HSW := hide (fun (w : World) (hw : So u w g t N dk) => hw.swap (first + r) (first + (2 * r + 1)) (unhide HZ0) (unhide HZY1))
            rw [unhide HY0, unhide HY1] at HSW
            have HSS : Hid ((Sort.swp dk (first + r) (first + (2 * r + 1))).size = n) := (swp_size _ _ _).trans (unhide HZ)
            have HCH : Hid (2 * r + 1 < hi ∧ r < 2 * r + 1) := ⟨by omega, by omega⟩
            clear hlt0
            go_wp2
            go_quiet (first | exact Calls.quiet_of_same (unhide HLT _) | exact quiet_same2 (unhide HLT _) | fail)
            go_wp2
            go_region
            go_wp2
            go_roundw
            case rel =>
              refine ⟨2 * r + 1, _, ?_, ?_, HSS, unhide HSW _ ?_, (unhide HGO).symm.trans (unhide HO)⟩
              · go_num
              · have := unhide HCH; omega
              · repeat (first | exact unhide HS | apply So.drewN | apply So.drew)
            case measure =>
              have := unhide HCH
              simp [intOf]
              omega
          | false =>
            have HEN : Hid (Sort.siftDown ltB hi first lo d = dk) := by
              show _ = _
              rw [← unhide HO]
              exact sd_stop hi first r dk (unhide HGE) (by rw [unhide HCC, unhide HY0, unhide HY1]; exact hlt0)
            have HLT := hide (fun w => unhide HL y0 y1 w)
            rw [hlt0] at HLT
            clear hlt0
            go_wp2
            go_quiet (first | exact Calls.quiet_of_same (unhide HLT _) | exact quiet_same2 (unhide HLT _) | fail)
            go_wp2
            go_returns
            refine ⟨rfl, ?_⟩
            rw [unhide HEN]
            repeat (first | exact unhide HS | apply So.drewN | apply So.drew)
      · have h2i : ¬ 2 * (r : Int) + 1 + 1 < (hi : Int) := by omega
        have HCC := hide (sdCh_one hi first r dk (.inl h2))
        have hw3 : IntKind.i64.wrap (2 * (r : Int) + 1 + 1) = 2 * (r : Int) + 1 + 1 := by rw [IntKind.wrap_i64]; omega
        have hd3 : decide (2 * (r : Int) + 1 + 1 < (hi : Int)) = false := decide_eq_false h2i
        go_wp2
        go_quiet (first | fail)
        go_wp2
        cases hlt0 : ltB y0 y1 with
        | true =>
          have HGO := hide (sd_go hi first r dk (unhide HGE) (by rw [unhide HCC, unhide HY0, unhide HY1]; exact hlt0))
          rw [unhide HCC] at HGO
          have HLT := hide (fun w => unhide HL y0 y1 w)
          rw [hlt0] at HLT
          have HSW := hide (fun (w : World) (hw : So u w g t N dk) => hw.swap (first + r) (first + (2 * r + 1)) (unhide HZ0) (unhide HZY1))
          rw [unhide HY0, unhide HY1] at HSW
          have HSS : Hid ((Sort.swp dk (first + r) (first + (2 * r + 1))).size = n) := (swp_size _ _ _).trans (unhide HZ)
          have HCH : Hid (2 * r + 1 < hi ∧ r < 2 * r + 1) := ⟨by omega, by omega⟩
          clear hlt0
          go_wp2
          go_quiet (first | exact Calls.quiet_of_same (unhide HLT _) | exact quiet_same2 (unhide HLT _) | fail)
          go_wp2
          go_region
          go_wp2
          go_roundw
          case rel =>
            refine ⟨2 * r + 1, _, ?_, ?_, HSS, unhide HSW _ ?_, (unhide HGO).symm.trans (unhide HO)⟩
            · go_num
            · have := unhide HCH; omega
            · repeat (first | exact unhide HS | apply So.drewN | apply So.drew)
          case measure =>
            have := unhide HCH
            simp [intOf]
            omega
        | false =>
          have HEN : Hid (Sort.siftDown ltB hi first lo d = dk) := by
            show _ = _
            rw [← unhide HO]
            exact sd_stop hi first r dk (unhide HGE) (by rw [unhide HCC, unhide HY0, unhide HY1]; exact hlt0)
          have HLT := hide (fun w => unhide HL y0 y1 w)
          rw [hlt0] at HLT
          clear hlt0
          go_wp2
          go_quiet (first | exact Calls.quiet_of_same (unhide HLT _) | exact quiet_same2 (unhide HLT _) | fail)
          go_wp2
          go_returns
          refine ⟨rfl, ?_⟩
          rw [unhide HEN]
          repeat (first | exact unhide HS | apply So.drewN | apply So.drew)
    · have hii : 2 * (r : Int) + 1 ≥ (hi : Int) := by omega
      have HEN : Hid (Sort.siftDown ltB hi first lo d = dk) := by
        show _ = _
        rw [← unhide HO, sd_end _ _ _ _ (by omega)]
      go_wp2
      go_returns
      exact ⟨rfl, by rw [unhide HEN]; exact unhide HS⟩
end Go.Proofs.Ytopabadnbelegaa.K
