/- States: the document's Encode. -/
import Derived.Test.YtkcbljmjhlnjpaaQYr
import Derived.Test.YtkcbljmjhlnjpaaQXgg
import Derived.Test.YtkcbljmjhlnjpaaQZaw
namespace Go.Proofs.Ytkcbljmjhlnjpaa
open Go.RowKit Go.Lib
theorem krEncV {l : List (Nat × Nat)} {ao : Option Addr} {c n : Nat} {u : World} (en : n = l.length) (h : Da u l ao c) (hv : V.Ok l) : Calls Try.prog 109 #[.slice ao n c] u fun e u' => e = .returned (.tuple #[.string ⟨(vecB l).toArray⟩, .int .i64 0]) ∧ Below u.heap.size u u' := by
  subst en
  have h1 := rEncode l ao c u h.at
  rw [show encV l = (⟨(vecB l).toArray⟩, 0) by unfold encV; rw [V.okB_true.2 hv]; rfl] at h1
  exact h1
set_option maxRecDepth 100000 in
set_option maxHeartbeats 8000000 in
theorem rEncT (s : St) (v : Sv) (u : World) (h : SAt u s v) : Calls Try.prog 71 #[v.v s.seen.length s.sibs.length] u fun e u' => e = .returned (.tuple #[.string (encT s).1, .int .i64 (encT s).2]) ∧ Below u.heap.size u u' := by
  obtain ⟨N, hN⟩ : ∃ N, N = u.heap.size := ⟨_, rfl⟩
  have HN := hide hN
  obtain ⟨n, hn⟩ : ∃ k, k = s.seen.length := ⟨_, rfl⟩
  obtain ⟨m, hm⟩ : ∃ k, k = s.sibs.length := ⟨_, rfl⟩
  have HS : Hid (Sx u s v n m) := ⟨h, hn, hm⟩
  have HV : Hid (∀ W : World, SAt W s v → Calls Try.prog 82 #[v.v n m] W fun e W' => e = .returned (.bool (sokB s)) ∧ Below W.heap.size W W') := fun W hW => by rw [hn, hm]; exact rValidT s v W hW
  have HU : Hid (∀ W : World, Below N u W → Below u.heap.size u W) := fun W hW => by rw [← unhide HN]; exact hW
  have HUP : Hid (∀ W W' : World, Below N u W → Below W.heap.size W W' → Below N u W') := fun W W' h1 h2 => h1.trans (h2.mono (by rw [hN]; exact h1.size))
  have HE2 := hide hm
  rw [← hn, ← hm, ← hN]
  clear hN hn hm h
  by_cases os : SOk s
  · rw [encT_ok os]
    rw [sokB_true.2 os] at HV
    have HO := hide os
    have hm64 : (m : Int) ≤ 64 := by have := os.len; have := unhide HE2; omega
    have hcm : IntKind.u64.wrap (m : Int) = (m : Int) := by rw [IntKind.wrap_u64]; omega
    have HUI : Hid (∀ (x : Nat) (w : World), x < 18446744073709551616 → Calls Try.prog 110 #[.int .u64 (x : Int)] w fun e w' => e = .returned (.string ⟨(W.uintB 9 x).toArray⟩) ∧ Below w.heap.size w w') := fun x w hx => W.mwUint x w hx
    have HU0 := hide (fun w => unhide HUI m w (by omega))
    have hl0 : (vecB s.seen).length ≤ 10000 ∧ (W.uintB 9 m).length ≤ 10 ∧ (∀ k, (vecB s.seen ++ W.uintB 9 m ++ sibsB (s.sibs.take k)).length ≤ 10000) := by
      have h0 := stB_len os
      have h1 : ∀ k, (sibsB (s.sibs.take k)).length ≤ (sibsB s.sibs).length := fun k => by
        have : sibsB s.sibs = sibsB (s.sibs.take k) ++ sibsB (s.sibs.drop k) := by unfold sibsB; rw [← List.flatMap_append, List.take_append_drop]
        rw [this, List.length_append]; omega
      unfold stB at h0
      rw [List.length_append, List.length_append, ← unhide HE2] at h0
      refine ⟨by omega, (uintB_len 9 m).2, fun k => ?_⟩
      have := h1 k
      rw [List.length_append, List.length_append]; omega
    have HSB : Hid (vecB s.seen ++ W.uintB 9 m ++ sibsB (s.sibs.take m) = stB s) := by
      unfold stB
      rw [unhide HE2, List.take_of_length_le (Nat.le_refl _), List.append_assoc]; exact rfl
    have hcat0 := catL (vecB s.seen) (W.uintB 9 m) (by omega) (by omega)
    have HLL := hide hl0.2.2
    have HTK := hide (fun k (hk : k < s.sibs.length) => sibsB_take s.sibs hk)
    clear hl0 os
    generalize hV0 : vecB s.seen ++ W.uintB 9 m = S0 at *
    generalize stB s = SB at *
    go_enter Try.func71, Try.ntmps71
    go_wp2_with (first
      | ((with_reducible refine wpList_box_state (by rfl) (.tmp 0) (by rfl) (some 1) (by rfl) N (unhide HN) v n m (by with_unfolding_all rfl) ?_); intro W1 HX1 HB1 HS1; simp only [Act.put, List.setIfInBounds_toArray, List.set_cons_zero, List.set_cons_succ]; have HLA : Hid (Lv W1 N s v n m) := ⟨(unhide HS).below (unhide HU _ (unhide HB1)), unhide HX1⟩; clear HX1 HS1; obtain ⟨x0, x1⟩ := (unhide HLA).cells)
      | (go_at_call 82; refine (unhide HV W1 (unhide HLA).sat).mono ?_; rintro e W2 ⟨rfl, hb⟩; clear x0 x1; replace HLA := hide ((unhide HLA).below hb); have HB2 := hide (unhide HUP _ _ (unhide HB1) hb); clear hb HB1; obtain ⟨x0, x1⟩ := (unhide HLA).cells)
      | (go_at_call 109; refine (krEncV (unhide HLA).en (unhide HLA).sat.seen (unhide HO).ok).mono ?_; rintro e W3 ⟨rfl, hb⟩; clear x0 x1; replace HLA := hide ((unhide HLA).below hb); have HB3 := hide (unhide HUP _ _ (unhide HB2) hb); clear hb HB2; obtain ⟨x0, x1⟩ := (unhide HLA).cells)
      | (go_at_call 110; refine (unhide HU0 _).mono ?_; rintro e W4 ⟨rfl, hb⟩; clear x0 x1; replace HLA := hide ((unhide HLA).below hb); have HB4 := hide (unhide HUP _ _ (unhide HB3) hb); clear hb HB3)
      | fail)
    go_loopw [4, 6] (fun sv i wr => ∃ (k : Nat) (bs : List UInt8), k ≤ m ∧ i = .int .i64 k ∧ sv = .string ⟨bs.toArray⟩ ∧ Hid (bs = S0 ++ sibsB (s.sibs.take k)) ∧ Hid (Lv wr N s v n m) ∧ Hid (Below N u wr)) (fun _ i _ => m - (intOf i).toNat)
    case atStart => exact ⟨0, S0, Nat.zero_le _, rfl, rfl, by rw [List.take_zero, show sibsB [] = [] from rfl, List.append_nil]; exact rfl, unhide HLA, unhide HB4⟩
    case round =>
      clear HB4 HLA
      obtain ⟨k, bs, hk, rfl, rfl, HBS, HLA, HI⟩ := hrel
      by_cases hlt : k < m
      · have hki : (k : Int) < (m : Int) := by omega
        have hkl : k < s.sibs.length := by rw [← unhide HE2]; exact hlt
        obtain ⟨g, o, hao, c1, c2, c3, c4⟩ := (unhide HLA).sat.sibs.lies.sb hkl
        have hix := ixS g o m v.bc k hlt
        have hf := (unhide HLA).sat.sibs.fits _ (List.getElem_mem hkl)
        have hmy := (unhide HO).may _ (List.getElem_mem hkl)
        have HTQ := hide (unhide HTK k hkl)
        have hbl : bs.length ≤ 10000 := by rw [unhide HBS]; exact unhide HLL k
        obtain ⟨x0, x1⟩ := (unhide HLA).cells
        rw [hao] at x1
        generalize s.sibs[k] = q at *
        obtain ⟨qa, qc, qg, qv⟩ := q
        have hq1 : qa < 4294967296 := hf.1
        have hq2 : qc < 18446744073709551616 := hf.2.1
        have hq3 : qv.size ≤ 40 := by unfold Sb.may at hmy; simp only at hmy; split at hmy <;> omega
        have hcq : IntKind.u64.wrap (qa : Int) = (qa : Int) := by rw [IntKind.wrap_u64]; omega
        have HK1 := hide (fun w => unhide HUI qa w (by omega))
        have HK2 := hide (fun w => unhide HUI qc w hq2)
        have HK4 := hide (fun w => W.mwText qv w (by omega))
        have hu1 := (uintB_len 9 qa).2
        have hu2 := (uintB_len 9 qc).2
        have hu4 : (W.uintB 9 qv.size ++ qv.data.toList).length ≤ 60 := by
          have h1 := (uintB_len 9 qv.size).2
          have h2 : qv.data.toList.length = qv.size := rfl
          rw [List.length_append]; omega
        generalize hT1 : W.uintB 9 qa = T1 at *
        generalize hT2 : W.uintB 9 qc = T2 at *
        generalize hT4 : W.uintB 9 qv.size ++ qv.data.toList = T4 at *
        obtain ⟨M, hM⟩ : ∃ M, M = wr.heap.size := ⟨_, rfl⟩
        have HM := hide hM
        generalize o + k * 4 = oo at *
        clear hf hmy hq1 hq2 hq3 hM hao
        cases qg
        · have HTE : Hid (bs ++ T1 ++ T2 ++ [0] ++ T4 = S0 ++ sibsB (s.sibs.take (k + 1))) := by rw [unhide HTQ, unhide HBS, ← hT1, ← hT2, ← hT4]; unfold sibB textB; simp only [List.append_assoc, Bool.false_eq_true, if_false]; exact trivial
          obtain ⟨S1, hS1⟩ : ∃ S1, S1 = bs ++ T1 := ⟨_, rfl⟩
          obtain ⟨S2, hS2⟩ : ∃ S2, S2 = S1 ++ T2 := ⟨_, rfl⟩
          obtain ⟨S3, hS3⟩ : ∃ S3, S3 = S2 ++ [0] := ⟨_, rfl⟩
          obtain ⟨S4, hS4⟩ : ∃ S4, S4 = S3 ++ T4 := ⟨_, rfl⟩
          have l1 : S1.length ≤ 11000 := by rw [hS1, List.length_append]; omega
          have l2 : S2.length ≤ 12000 := by rw [hS2, List.length_append]; omega
          have l3 : S3.length ≤ 12001 := by rw [hS3, List.length_append, List.length_singleton]; omega
          have hcat1 := catL bs T1 (by omega) (by omega)
          have hcat2 := catL S1 T2 (by omega) (by omega)
          have hcat3 := catL S2 [0] (by omega) (by decide)
          have hcat4 := catL S3 T4 (by omega) (by omega)
          replace HTE : Hid (S4 = S0 ++ sibsB (s.sibs.take (k + 1))) := by rw [hS4, hS3, hS2, hS1]; exact unhide HTE
          rw [← hS1] at hcat1
          rw [← hS2] at hcat2
          rw [← hS3] at hcat3
          rw [← hS4] at hcat4
          clear hS1 hS2 hS3 hS4 l1 l2 l3 hbl hu1 hu2 hu4 hT1 hT2 hT4 HTQ
          go_wp2_with (first
            | ((with_reducible refine wpList_alloc_sib (by rfl) (by rfl) (some 7) (by rfl) M (unhide HM) ?_); intro V1 HY1 HA1 HZ1; simp only [Act.put, List.setIfInBounds_toArray, List.set_cons_zero, List.set_cons_succ])
            | ((with_reducible refine wpList_store_sib (by rfl) (.tmp 7) (.tmp 38) (by rfl) M ⟨qa, qc, false, qv⟩ (by with_unfolding_all rfl) (by with_unfolding_all rfl) (unhide HY1) ?_); intro V2 HY2 HE2'; simp only [Act.put]; have hb : Below wr.heap.size wr V2 := (by rw [unhide HE2', ← unhide HM]; exact belowRow (unhide HA1) (Nat.le_refl _) _); clear x0 x1; replace HLA := hide ((unhide HLA).below hb); replace HI := hide (unhide HUP _ _ (unhide HI) hb); clear hb HA1 HZ1 HE2' HY1; obtain ⟨z0, z1, z2, z3⟩ := sib_cells (unhide HY2))
            | fail)
          have HC : Hid (∀ W : World, Below V2.heap.size V2 W → W.cell? ⟨M, 0, none⟩ = some (.int .u32 (qa : Int)) ∧ W.cell? ⟨M, 1, none⟩ = some (.int .u64 (qc : Int)) ∧ W.cell? ⟨M, 2, none⟩ = some (.bool false) ∧ W.cell? ⟨M, 3, none⟩ = some (.string qv)) := fun W hW => sib_cells (box_below (unhide HY2) hW)
          clear HY2
          go_region_held3 (fun w => w.cell? ⟨M, 0, none⟩ = some (.int .u32 (qa : Int)) ∧ w.cell? ⟨M, 1, none⟩ = some (.int .u64 (qc : Int)) ∧ w.cell? ⟨M, 3, none⟩ = some (.string qv)) (first | exact ⟨z0, z1, z3⟩ | exact ⟨y0, y1, y3⟩ | exact ⟨p0, p1, p3⟩ | exact ⟨r0, r1, r3⟩ | (go_keep; done)) (first
            | (go_at_call_of 110 (Value.int IntKind.u64 (qa : Int)); have _t := HK1; refine (unhide HK1 _).mono ?_; rintro e w3 ⟨rfl, hb3⟩; have HB3 : Hid (Below V2.heap.size V2 w3) := (belowDrew (Below.refl _ _)).trans hb3; obtain ⟨y0, y1, y2, y3⟩ := unhide HC _ (unhide HB3); clear hb3 HK1 _t)
            | (go_at_call 110; refine (unhide HK2 _).mono ?_; rintro e w4 ⟨rfl, hb4⟩; have HB4 : Hid (Below V2.heap.size V2 w4) := (unhide HB3).trans (hb4.mono (unhide HB3).size); obtain ⟨p0, p1, p2, p3⟩ := unhide HC _ (unhide HB4); clear hb4)
            | (go_at_call 74; refine (unhide HK4 _).mono ?_; rintro e w5 ⟨rfl, hb5⟩; have HB5 : Hid (Below V2.heap.size V2 w5) := (unhide HB4).trans (hb5.mono (unhide HB4).size); obtain ⟨r0, r1, r2, r3⟩ := unhide HC _ (unhide HB5); clear hb5)
            | fail)
          go_wp2
          go_roundw
          case rel => exact ⟨k + 1, S4, by omega, by go_num, rfl, unhide HTE, (unhide HLA).below (unhide HB5), unhide HUP _ _ (unhide HI) (unhide HB5)⟩
          case measure => simp [intOf]; omega
        · have HTE : Hid (bs ++ T1 ++ T2 ++ [1] ++ T4 = S0 ++ sibsB (s.sibs.take (k + 1))) := by rw [unhide HTQ, unhide HBS, ← hT1, ← hT2, ← hT4]; unfold sibB textB; simp only [List.append_assoc, if_true]; exact trivial
          obtain ⟨S1, hS1⟩ : ∃ S1, S1 = bs ++ T1 := ⟨_, rfl⟩
          obtain ⟨S2, hS2⟩ : ∃ S2, S2 = S1 ++ T2 := ⟨_, rfl⟩
          obtain ⟨S3, hS3⟩ : ∃ S3, S3 = S2 ++ [1] := ⟨_, rfl⟩
          obtain ⟨S4, hS4⟩ : ∃ S4, S4 = S3 ++ T4 := ⟨_, rfl⟩
          have l1 : S1.length ≤ 11000 := by rw [hS1, List.length_append]; omega
          have l2 : S2.length ≤ 12000 := by rw [hS2, List.length_append]; omega
          have l3 : S3.length ≤ 12001 := by rw [hS3, List.length_append, List.length_singleton]; omega
          have hcat1 := catL bs T1 (by omega) (by omega)
          have hcat2 := catL S1 T2 (by omega) (by omega)
          have hcat3 := catL S2 [1] (by omega) (by decide)
          have hcat4 := catL S3 T4 (by omega) (by omega)
          replace HTE : Hid (S4 = S0 ++ sibsB (s.sibs.take (k + 1))) := by rw [hS4, hS3, hS2, hS1]; exact unhide HTE
          rw [← hS1] at hcat1
          rw [← hS2] at hcat2
          rw [← hS3] at hcat3
          rw [← hS4] at hcat4
          clear hS1 hS2 hS3 hS4 l1 l2 l3 hbl hu1 hu2 hu4 hT1 hT2 hT4 HTQ
          go_wp2_with (first
            | ((with_reducible refine wpList_alloc_sib (by rfl) (by rfl) (some 7) (by rfl) M (unhide HM) ?_); intro V1 HY1 HA1 HZ1; simp only [Act.put, List.setIfInBounds_toArray, List.set_cons_zero, List.set_cons_succ])
            | ((with_reducible refine wpList_store_sib (by rfl) (.tmp 7) (.tmp 38) (by rfl) M ⟨qa, qc, true, qv⟩ (by with_unfolding_all rfl) (by with_unfolding_all rfl) (unhide HY1) ?_); intro V2 HY2 HE2'; simp only [Act.put]; have hb : Below wr.heap.size wr V2 := (by rw [unhide HE2', ← unhide HM]; exact belowRow (unhide HA1) (Nat.le_refl _) _); clear x0 x1; replace HLA := hide ((unhide HLA).below hb); replace HI := hide (unhide HUP _ _ (unhide HI) hb); clear hb HA1 HZ1 HE2' HY1; obtain ⟨z0, z1, z2, z3⟩ := sib_cells (unhide HY2))
            | fail)
          have HC : Hid (∀ W : World, Below V2.heap.size V2 W → W.cell? ⟨M, 0, none⟩ = some (.int .u32 (qa : Int)) ∧ W.cell? ⟨M, 1, none⟩ = some (.int .u64 (qc : Int)) ∧ W.cell? ⟨M, 2, none⟩ = some (.bool true) ∧ W.cell? ⟨M, 3, none⟩ = some (.string qv)) := fun W hW => sib_cells (box_below (unhide HY2) hW)
          clear HY2
          go_region_held3 (fun w => w.cell? ⟨M, 0, none⟩ = some (.int .u32 (qa : Int)) ∧ w.cell? ⟨M, 1, none⟩ = some (.int .u64 (qc : Int)) ∧ w.cell? ⟨M, 3, none⟩ = some (.string qv)) (first | exact ⟨z0, z1, z3⟩ | exact ⟨y0, y1, y3⟩ | exact ⟨p0, p1, p3⟩ | exact ⟨r0, r1, r3⟩ | (go_keep; done)) (first
            | (go_at_call_of 110 (Value.int IntKind.u64 (qa : Int)); have _t := HK1; refine (unhide HK1 _).mono ?_; rintro e w3 ⟨rfl, hb3⟩; have HB3 : Hid (Below V2.heap.size V2 w3) := (belowDrew (Below.refl _ _)).trans hb3; obtain ⟨y0, y1, y2, y3⟩ := unhide HC _ (unhide HB3); clear hb3 HK1 _t)
            | (go_at_call 110; refine (unhide HK2 _).mono ?_; rintro e w4 ⟨rfl, hb4⟩; have HB4 : Hid (Below V2.heap.size V2 w4) := (unhide HB3).trans (hb4.mono (unhide HB3).size); obtain ⟨p0, p1, p2, p3⟩ := unhide HC _ (unhide HB4); clear hb4)
            | (go_at_call 74; refine (unhide HK4 _).mono ?_; rintro e w5 ⟨rfl, hb5⟩; have HB5 : Hid (Below V2.heap.size V2 w5) := (unhide HB4).trans (hb5.mono (unhide HB4).size); obtain ⟨r0, r1, r2, r3⟩ := unhide HC _ (unhide HB5); clear hb5)
            | fail)
          go_wp2
          go_roundw
          case rel => exact ⟨k + 1, S4, by omega, by go_num, rfl, unhide HTE, (unhide HLA).below (unhide HB5), unhide HUP _ _ (unhide HI) (unhide HB5)⟩
          case measure => simp [intOf]; omega
      · obtain rfl : k = m := by omega
        have hki : ¬ (k : Int) < (k : Int) := by omega
        obtain ⟨x0, x1⟩ := (unhide HLA).cells
        go_wp2
        go_ret2
        exact ⟨by rw [← unhide HSB, ← unhide HBS]; rfl, unhide HI⟩
  · rw [encT_no os]
    rw [sokB_false.2 os] at HV
    clear os
    go_enter Try.func71, Try.ntmps71
    go_wp2_with (first
      | ((with_reducible refine wpList_box_state (by rfl) (.tmp 0) (by rfl) (some 1) (by rfl) N (unhide HN) v n m (by with_unfolding_all rfl) ?_); intro W1 HX1 HB1 HS1; simp only [Act.put, List.setIfInBounds_toArray, List.set_cons_zero, List.set_cons_succ]; have HLA : Hid (Lv W1 N s v n m) := ⟨(unhide HS).below (unhide HU _ (unhide HB1)), unhide HX1⟩; clear HX1 HS1; obtain ⟨x0, x1⟩ := (unhide HLA).cells)
      | (go_at_call 82; refine (unhide HV W1 (unhide HLA).sat).mono ?_; rintro e W2 ⟨rfl, hb⟩; have HB2 := hide (unhide HUP _ _ (unhide HB1) hb); clear hb)
      | fail)
    go_ret2
    exact ⟨rfl, unhide HB2⟩
end Go.Proofs.Ytkcbljmjhlnjpaa
