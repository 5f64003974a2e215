/- Nodes: cells and keys that may be, that rise; Check. -/
import Derived.Test.YtppmpomfihalfaaNd
namespace Go.Proofs.Ytppmpomfihalfaa
open Go.RowKit

open Classical in
set_option maxRecDepth 100000 in
set_option maxHeartbeats 8000000 in
theorem nSmall (n : Nd) (a : Nv) (u : World) (h : NdAt u n a) : Calls Try.prog 71 #[a.v n] u fun e u' => e = .returned (.bool (decide n.Small)) ∧ Below u.heap.size u u' := by
  obtain ⟨N, hN⟩ : ∃ N, N = u.heap.size := ⟨_, rfl⟩
  have HN := hide hN
  rw [← hN]
  clear hN
  obtain ⟨ca, cc, ka, kc, ga, gc⟩ := a
  obtain ⟨lf, cs, ks, gs⟩ := n
  show Calls Try.prog 71 #[.agg #[.bool lf, .slice ca cs.length cc, .slice ka ks.length kc, .slice ga gs.length gc]] u _
  have hl : cs.length ≤ 140737488355328 ∧ ks.length ≤ 140737488355328 ∧ gs.length ≤ 140737488355328 := h.len
  have HC : Hid (Lies u ca (flatC cs)) := h.cells
  have HK : Hid (Lies u ka (flatK ks)) := h.keys
  have HST : Hid (∀ c ∈ cs, c.key.size ≤ 140737488355328 ∧ c.val.size ≤ 140737488355328) := h.str
  clear h
  obtain ⟨r, hr⟩ : ∃ r, r = decide (Nd.Small ⟨lf, cs, ks, gs⟩) := ⟨_, rfl⟩
  rw [← hr]
  replace hr : r = true ↔ ((∀ c ∈ cs, c.Ok) ∧ ∀ k ∈ ks, keyOk k) := by rw [hr]; exact decide_eq_true_iff
  have HR := hide hr
  obtain ⟨cn, hcn⟩ : ∃ cn, cn = cs.length := ⟨_, rfl⟩
  obtain ⟨kn, hkn⟩ : ∃ kn, kn = ks.length := ⟨_, rfl⟩
  have HCN := hide hcn
  have HKN := hide hkn
  have HKM := hide (fun (k : ByteArray) (v : World) => nKeyMay k v)
  rw [← hcn, ← hkn] at hl ⊢
  generalize gs.length = gn at *
  have hcni : (cn : Int) ≤ 140737488355328 := by omega
  have hkni : (kn : Int) ≤ 140737488355328 := by omega
  clear hr hcn hkn hl
  go_enter Try.func71, Try.ntmps71
  go_wp2_with (first
    | (refine wpList_box_row (by rfl) 26 (.tmp 0) (by rfl) (some 1) (by rfl) N (by exact (unhide HN).symm) #[.bool _, .slice ca cn cc, .slice ka kn kc, .slice ga gn gc] rfl ?_; intro W1 HX1 HB1 HS1; simp only [Act.put, List.setIfInBounds_toArray, List.set_cons_zero, List.set_cons_succ]; obtain ⟨y0, y1, y2, y3⟩ := box4 (unhide HX1))
    | fail)
  go_loopw [10] (fun i wr => ∃ k : Nat, k ≤ cn ∧ i = .int .i64 k ∧ Hid ((Below N u wr ∧ wr.heap[N]? = some (.cells #[.bool lf, .slice ca cn cc, .slice ka kn kc, .slice ga gn gc] 26 (0, 0))) ∧ ∀ j (hj : j < cs.length), j < k → cs[j].Ok)) (fun i _ => cn - (intOf i).toNat)
  case atStart => exact ⟨0, Nat.zero_le _, rfl, ⟨unhide HB1, unhide HX1⟩, fun j _ h => by omega⟩
  case round =>
    clear HX1 HB1 HS1 y0 y1 y2 y3
    obtain ⟨k, hk, rfl, HI⟩ := hrel
    by_cases hlt : k < cn
    · have hki : (k : Int) < (cn : Int) := by omega
      have hkl : k < cs.length := by rw [← unhide HCN]; exact hlt
      have hbw : Below u.heap.size u wr := by rw [← unhide HN]; exact (unhide HI).1.1
      obtain ⟨g, o, hao, hc, hv⟩ := ((unhide HC).below hbw).cl hkl
      subst hao
      have hix := ixCells g o cn cc k hlt
      obtain ⟨M, hM⟩ : ∃ M, M = wr.heap.size := ⟨_, rfl⟩
      have HMM := hide hM
      have HNM : Hid (N ≤ M) := by rw [hM, unhide HN]; exact hbw.size
      have HOK : Hid (cs[k].Ok → ∀ j (hj : j < cs.length), j < k + 1 → cs[j].Ok) := fun hz j hj hjk => by
        rcases Nat.lt_or_ge j k with h1 | h1
        · exact (unhide HI).2 j hj h1
        · obtain rfl : j = k := by omega
          exact hz
      have HNO : Hid (¬ cs[k].Ok → r = false) := fun hz => Bool.eq_false_iff.2 (fun hq => hz (((unhide HR).1 hq).1 _ (List.getElem_mem hkl)))
      have hst := unhide HST _ (List.getElem_mem hkl)
      clear hbw hM
      generalize cs[k] = c at *
      clear hkl
      obtain ⟨q, p⟩ := c
      have hq : (q.size : Int) ≤ 140737488355328 := by have : q.size ≤ 140737488355328 := hst.1; omega
      have hp : (p.size : Int) ≤ 140737488355328 := by have : p.size ≤ 140737488355328 := hst.2; omega
      clear hst
      have hc : wr.cell? ⟨g, o + k * 2, none⟩ = some (.string q) := hc
      have hv : wr.cell? ⟨g, o + k * 2 + 1, none⟩ = some (.string p) := hv
      generalize o + k * 2 = j2 at *
      have HBX : Hid (∀ W4 W5 : World, Below M wr W4 → W5 = W4.setRow M #[.string q, .string p] → Below N u W5 ∧ W5.heap[N]? = some (.cells #[.bool lf, .slice (some ⟨g, o, none⟩) cn cc, .slice ka kn kc, .slice ga gn gc] 26 (0, 0))) := fun W4 W5 h4 h5 => by
        have h6 : Below M wr W5 := by rw [h5]; exact belowRow h4 (Nat.le_refl _) _
        exact ⟨(unhide HI).1.1.trans (h6.mono (unhide HNM)), box_below (unhide HI).1.2 (by rw [← unhide HMM]; exact h6)⟩
      by_cases h0 : q.size = 0
      · have hne : (q.toList == []) = true := by simp [empty_list, h0]
        obtain rfl := unhide HNO (fun h => by have : 1 ≤ q.size := h.1; omega)
        clear h0
        go_wp2_with (first
          | (with_reducible refine wpList_alloc_cell (by rfl) (by rfl) (some 4) (by rfl) M (unhide HMM) ?_; intro W4 HX4 HB4 HS4; simp only [Act.put, List.setIfInBounds_toArray, List.set_cons_zero, List.set_cons_succ])
          | (with_reducible refine wpList_store_cell (by rfl) (.tmp 4) (.tmp 13) (by rfl) M q p (by with_unfolding_all rfl) (by with_unfolding_all rfl) (unhide HX4) ?_; intro W5 HX5 HE5; simp only [Act.put]; obtain ⟨z0, z1⟩ := box2 (unhide HX5))
          | fail)
        have HZ := hide (unhide HBX W4 W5 (unhide HB4) (unhide HE5))
        clear HE5 HX4 HB4 HS4 HX5
        go_wp2
        go_ret
        exact ⟨rfl, (unhide HZ).1⟩
      · have hne : (q.toList == []) = false := by simp [empty_list, h0]
        by_cases h1 : q.size + p.size ≤ 320
        · have hi : ¬ (320 : Int) < (q.size : Int) + (p.size : Int) := by omega
          have HO := hide (unhide HOK ⟨by show 1 ≤ q.size; omega, h1⟩)
          clear h0 h1
          go_wp2_with (first
            | (with_reducible refine wpList_alloc_cell (by rfl) (by rfl) (some 4) (by rfl) M (unhide HMM) ?_; intro W4 HX4 HB4 HS4; simp only [Act.put, List.setIfInBounds_toArray, List.set_cons_zero, List.set_cons_succ])
            | (with_reducible refine wpList_store_cell (by rfl) (.tmp 4) (.tmp 13) (by rfl) M q p (by with_unfolding_all rfl) (by with_unfolding_all rfl) (unhide HX4) ?_; intro W5 HX5 HE5; simp only [Act.put]; obtain ⟨z0, z1⟩ := box2 (unhide HX5))
            | fail)
          have HZ := hide (unhide HBX W4 W5 (unhide HB4) (unhide HE5))
          clear HE5 HX4 HB4 HS4 HX5
          go_wp2
          go_roundw
          case rel => exact ⟨k + 1, by omega, by go_num, unhide HZ, unhide HO⟩
          case measure => simp [intOf]; omega
        · have hi : (320 : Int) < (q.size : Int) + (p.size : Int) := by omega
          obtain rfl := unhide HNO (fun h => h1 h.2)
          clear h0 h1
          go_wp2_with (first
            | (with_reducible refine wpList_alloc_cell (by rfl) (by rfl) (some 4) (by rfl) M (unhide HMM) ?_; intro W4 HX4 HB4 HS4; simp only [Act.put, List.setIfInBounds_toArray, List.set_cons_zero, List.set_cons_succ])
            | (with_reducible refine wpList_store_cell (by rfl) (.tmp 4) (.tmp 13) (by rfl) M q p (by with_unfolding_all rfl) (by with_unfolding_all rfl) (unhide HX4) ?_; intro W5 HX5 HE5; simp only [Act.put]; obtain ⟨z0, z1⟩ := box2 (unhide HX5))
            | fail)
          have HZ := hide (unhide HBX W4 W5 (unhide HB4) (unhide HE5))
          clear HE5 HX4 HB4 HS4 HX5
          go_wp2
          go_ret
          exact ⟨rfl, (unhide HZ).1⟩
    · obtain rfl : k = cn := by omega
      have hki : ¬ (k : Int) < (k : Int) := by omega
      have HALL : Hid (∀ x ∈ cs, x.Ok) := fun x hx => by
        obtain ⟨j, hj, rfl⟩ := List.mem_iff_getElem.1 hx
        exact (unhide HI).2 j hj (by rw [unhide HCN]; exact hj)
      obtain ⟨y0, y1, y2, y3⟩ := box4 (unhide HI).1.2
      go_wp2_with fail
      go_loopw [31] (fun i wq => ∃ k : Nat, k ≤ kn ∧ i = .int .i64 k ∧ wq = wr ∧ Hid (∀ j (hj : j < ks.length), j < k → keyOk ks[j])) (fun i _ => kn - (intOf i).toNat)
      case atStart => exact ⟨0, Nat.zero_le _, rfl, rfl, fun j _ h => by omega⟩
      case round =>
        obtain ⟨m, hm, rfl, hw, HJ⟩ := hrel
        obtain rfl := hw.symm
        clear hw
        by_cases hmt : m < kn
        · have hmi : (m : Int) < (kn : Int) := by omega
          have hml : m < ks.length := by rw [← unhide HKN]; exact hmt
          have hbw : Below u.heap.size u wr := by rw [← unhide HN]; exact (unhide HI).1.1
          obtain ⟨g, o, hao, hc⟩ := ((unhide HK).below hbw).ky hml
          subst hao
          have hix := ixStrs g o kn kc m hmt
          have HOK : Hid (keyOk ks[m] → ∀ j (hj : j < ks.length), j < m + 1 → keyOk ks[j]) := fun hz j hj hjk => by
            rcases Nat.lt_or_ge j m with h1 | h1
            · exact unhide HJ j hj h1
            · obtain rfl : j = m := by omega
              exact hz
          have HNO : Hid (¬ keyOk ks[m] → r = false) := fun hz => Bool.eq_false_iff.2 (fun hq => hz (((unhide HR).1 hq).2 _ (List.getElem_mem hml)))
          have HKQ := hide (unhide HKM ks[m] wr)
          clear hbw
          generalize ks[m] = q at *
          clear hml
          by_cases hq : keyOk q
          · have HO := hide (unhide HOK hq)
            rw [decide_eq_true hq] at HKQ
            clear hq HOK HNO
            go_wp2_with fail
            refine (unhide HKQ).mono ?_
            rintro e w3 ⟨rfl, hw⟩
            obtain rfl := hw.symm
            clear hw
            go_wp2
            go_roundw
            case rel => exact ⟨m + 1, by omega, by go_num, trivial, unhide HO⟩
            case measure => simp [intOf]; omega
          · obtain rfl := unhide HNO hq
            rw [decide_eq_false hq] at HKQ
            clear hq HOK HNO
            go_wp2_with fail
            refine (unhide HKQ).mono ?_
            rintro e w3 ⟨rfl, hw⟩
            obtain rfl := hw.symm
            clear hw
            go_wp2
            go_ret
            exact ⟨rfl, (unhide HI).1.1⟩
        · obtain rfl : m = kn := by omega
          have hmi : ¬ (m : Int) < (m : Int) := by omega
          obtain rfl : r = true := (unhide HR).2 ⟨unhide HALL, fun x hx => by
            obtain ⟨j, hj, rfl⟩ := List.mem_iff_getElem.1 hx
            exact unhide HJ j hj (by rw [unhide HKN]; exact hj)⟩
          go_wp2
          go_ret
          exact ⟨rfl, (unhide HI).1.1⟩
end Go.Proofs.Ytppmpomfihalfaa
