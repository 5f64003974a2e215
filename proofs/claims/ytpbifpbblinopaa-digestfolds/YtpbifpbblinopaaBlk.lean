/- Block, by the program and by the document, of any length. -/
import Derived.Test.YtpbifpbblinopaaOfM
import Derived.Test.YtpbifpbblinopaaBkM
namespace Go.Proofs.Ytpbifpbblinopaa
open Go.RowKit

set_option maxRecDepth 100000 in
set_option maxHeartbeats 1000000 in
theorem dBlock64 (x : List UInt8) (hx : x.length = 64) (s : Sha.St) (hs : Ok s) (g off cap : Nat) (w : World) (hg : g < w.heap.size) (hc : ∀ (j : Nat) (hj : j < x.length), w.cell? ⟨g, off + j, none⟩ = some (.int .u8 (x[j].toNat : Int))) :
    Calls Try.prog 14 #[.agg (St8 s), .slice (some ⟨g, off, none⟩) 64 cap] w fun e w' => e = .returned (.tuple #[.agg (St8 (Sha.mix s x)), .int .i64 0]) ∧ Below w.heap.size w w' := by
  obtain ⟨b, hbw⟩ : ∃ b, b = w.heap.size := ⟨_, rfl⟩
  have HBW := hide hbw
  have HC := hide hc
  have HS := hide hs
  have HX := hide hx
  have hu := Try.underlying23
  clear hc hs hx hbw
  have haa := arrAt64 g off cap
  go_enter Try.func14, Try.ntmps14
  go_wp2_with (first | (refine wpList_box_row (by rfl) 23 (.tmp 0) (by rfl) (some 2) (by rfl) b (by exact (unhide HBW).symm) (St8 s) (by rfl) ?_; intro W1 HR1 HB1 HS1) | (refine wpList_alloc_row (by rfl) 23 (by rfl) (some 4) (by rfl) (b + 1) (by exact unhide HS1) Z8 zero8 ?_; intro W2 HR2 HB2 HS2))
  refine (dCubes _).mono ?_
  rintro e W3 ⟨rfl, hb3⟩
  have HB3 := hide hb3
  clear hb3
  generalize htb : W3.heap.size = tb
  have HTB := hide htb
  clear htb
  go_wp2_with (first | (refine wpList_alloc_row (by rfl) 62 (by rfl) (some 6) (by rfl) tb (by exact unhide HTB) Z64 zeroW ?_; intro W4 HR4 HB4 HS4) | (refine wpList_store_u1 rfl 62 (.tmp 6) (.tmp 11) rfl tb KV rfl rfl 62 Z64 (unhide HR4) infoW rfl KV_is.one ?_; intro W5 HR5 HU5))
  have HP : Hid (Below b w W5 ∧ W5.heap[b]? = some (.cells (St8 s) 23 (0, 0)) ∧ W5.heap[b + 1]? = some (.cells Z8 23 (0, 0)) ∧ W5.heap[tb]? = some (.cells KV 62 (0, 0)) ∧ b + 2 ≤ tb ∧ tb < W5.heap.size) := by
    have h1 := unhide HB1
    have h2 := unhide HB2
    have h3 := unhide HB3
    have h4 := unhide HB4
    have hs1 := unhide HS1
    have hs2 := unhide HS2
    have hs4 := unhide HS4
    have htb := unhide HTB
    have hu5 := unhide HU5
    have h3s := h3.size
    rw [← htb] at h4
    have k5 : ∀ k, k < tb → W5.heap[k]? = W3.heap[k]? := fun k hk => (hu5.block k (by omega) (by omega)).trans (h4.block k (by omega))
    refine ⟨(((h1.trans (h2.mono (by omega))).trans (h3.mono (by omega))).trans (h4.mono (by omega))).trans (hu5.toBelow (by omega) (by omega)), ?_, ?_, unhide HR5, by omega, (Array.getElem?_eq_some_iff.1 (unhide HR5)).1⟩
    · rw [k5 b (by omega), h3.block b (by omega), h2.block b (by omega)]; exact unhide HR1
    · rw [k5 (b + 1) (by omega), h3.block (b + 1) (by omega)]; exact unhide HR2
  clear HR1 HB1 HS1 HR2 HB2 HS2 HB3 HR4 HB4 HS4 HR5 HU5 HTB
  refine wp_region_any (by kernel_rfl) ?_
  change wpAny _ _ _ _ _ _ _ (World.drew _)
  refine wpAny_take' 1 13 (.slice (some ⟨g, off, none⟩) 64 cap) rfl rfl (by kernel_rfl) (by kernel_rfl) (by kernel_rfl) (fun _ _ _ h => h) rfl (fun u => by go_simp) ?_
  simp only [Act.put, List.setIfInBounds_toArray, List.set_cons_zero, List.set_cons_succ]
  refine wpAny_take' 2 14 (.pointer (some ⟨g, off, none⟩)) rfl rfl (by kernel_rfl) (by kernel_rfl) (by kernel_rfl) (fun _ _ _ h => h) rfl (fun u => by go_simp) ?_
  simp only [Act.put, List.setIfInBounds_toArray, List.set_cons_zero, List.set_cons_succ]
  have hst : W5.drew.rangeAt b 0 (St8 s).toList := by
    intro j v hv
    rw [Nat.zero_add]
    show W5.cell? ⟨b, j, none⟩ = some v
    simp only [World.cell?, (unhide HP).2.1]
    simpa using hv
  have hlf : W5.drew.rangeAt g off (Lib.byteCells x).toArray.toList := by
    intro j v hv
    have hj : j < x.length := by have := (List.getElem?_eq_some_iff.1 hv).1; simpa [byteCells_len] using this
    have hv' : (Lib.byteCells x)[j]? = some v := hv
    rw [byteCells_at x j hj] at hv'
    show W5.cell? ⟨g, off + j, none⟩ = some v
    rw [(unhide HP).1.cell (p := ⟨g, off + j, none⟩) (by rw [unhide HBW]; exact hg), (unhide HC) j hj, hv']
  have hi2 : (Try.prog.info? 65).map (·.size) = some (Lib.byteCells x).toArray.size := by rw [infoB, (lf_is8 _ (unhide HX)).size]
  refine wpAny_pair (i := 0) (j := 3) (by kernel_rfl) (by kernel_rfl) (by kernel_rfl) (by kernel_rfl) rfl rfl rfl rfl 12 15 (by decide)
    (fun K hK => wp_load_arr 23 (.tmp 2) rfl (some 12) rfl b 0 rfl (St8 s) _ _ hst Try.underlying23 info8 hK)
    (fun K hK => wp_load_arr 23 (.tmp 2) rfl (some 12) rfl b 0 rfl (St8 s) _ _ hst Try.underlying23 info8 hK)
    (fun K hK => wp_load_arr 65 (.tmp 14) rfl (some 15) rfl g off rfl (Lib.byteCells x).toArray _ _ hlf Try.underlying65 hi2 hK)
    (fun K hK => wp_load_arr 65 (.tmp 14) rfl (some 15) rfl g off rfl (Lib.byteCells x).toArray _ _ hlf Try.underlying65 hi2 hK) ?_
  simp only [Act.put, List.setIfInBounds_toArray, List.set_cons_zero, List.set_cons_succ]
  refine wpAny_one (i := 4) (by kernel_rfl) rfl rfl fun K hK => ?_
  go_simp
  refine (dMixed (lfB x) (lfB_lt _) s (unhide HS) _ (lf_is8 _ (unhide HX)) tb W5.drew (unhide HP).2.2.2.2.2 (fun i hi => by
    show W5.cell? ⟨tb, i, none⟩ = _
    simp only [World.cell?, (unhide HP).2.2.2.1]
    exact KV_is.at' i hi)).mono ?_
  rintro e W6 ⟨rfl, hb6⟩
  rw [mix_lfB]
  have hr6 : W6.heap[b + 1]? = some (.cells Z8 23 (0, 0)) := (hb6.block (b + 1) (by have := (unhide HP).2.2.2.2; show b + 1 < W5.heap.size; omega)).trans (unhide HP).2.2.1
  have hth : W6.there (b + 1) 0 8 := by
    intro j hj
    rw [Nat.zero_add]
    refine ⟨?_, by simp [World.frozen?, hr6]⟩
    simp only [World.cell?, hr6]
    simp [Z8, hj]
  have HB6 : Hid (Below b w W6 ∧ b + 2 ≤ W6.heap.size) := by
    have hP := unhide HP
    have hsz : W5.drew.heap.size = W5.heap.size := rfl
    have hbs := hb6.size
    refine ⟨hP.1.trans ⟨hb6.os, hb6.tape, hb6.output, by omega, fun k hk => hb6.block k (by omega)⟩, by omega⟩
  have hrr := heap_setCells (St8 (Sha.mix s x)).toList 0 W6 Z8.toList hr6 (by simp [St8, Z8])
  have es : splice Z8.toList 0 (St8 (Sha.mix s x)).toList = (St8 (Sha.mix s x)).toList := by simp [splice, St8, Z8]
  rw [es] at hrr
  have HRR := hide hrr
  clear hb6 hr6 hst hlf hi2 HP hrr es
  generalize hmt : Sha.mix s x = t at *
  have HMT := hide hmt
  clear hmt
  refine hK _ _ ?_
  clear hK K
  refine wpAny_one (i := 5) (by kernel_rfl) rfl rfl fun K hK => wp_store_arr 23 (.tmp 4) (.tmp 16) rfl rfl (b + 1) 0 (St8 t) rfl rfl hth info8 (St8_one t) (hK _ _ ?_)
  clear hK K hth
  refine wpAny_take' 6 5 (.int .i64 0) rfl rfl (by kernel_rfl) (by kernel_rfl) (by kernel_rfl) (fun _ _ _ h => h) rfl (fun u => by go_simp) ?_
  simp only [Act.put, List.setIfInBounds_toArray, List.set_cons_zero, List.set_cons_succ]
  refine wpAny_done (by kernel_rfl) ?_ _
  have HU : Hid (U1 W6 (W6.setCells (b + 1) 0 (St8 t).toList) (b + 1)) := U1.cells _ _ _ (U1.refl _ _)
  generalize W6.setCells (b + 1) 0 (St8 t).toList = W7 at *
  go_wp2
  refine bodyPost_ret (results_row_tmp rfl _ _ (b + 1) 23 (St8 t) (0, 0) _ _ rfl (unhide HRR) hu info8) rfl ?_
  have hbw := unhide HBW
  refine ⟨by rw [unhide HMT]; rfl, ?_⟩
  rw [← hbw]
  exact (unhide HB6).1.trans ((unhide HU).toBelow (by have := (unhide HB6).2; omega) (by omega))
set_option maxRecDepth 100000 in
theorem dBlockNo (st : Array Value) (ao : Option Addr) (n cap : Nat) (hn : n ≠ 64) (w : World) :
    Calls Try.prog 14 #[.agg st, .slice ao n cap] w fun e w' => e = .returned (.tuple #[.agg Z8, .int .i64 1]) ∧ Below w.heap.size w w' := by
  obtain ⟨b, hbw⟩ : ∃ b, b = w.heap.size := ⟨_, rfl⟩
  have HBW := hide hbw
  clear hbw
  have hu := Try.underlying23
  have hni : ((n : Int) != 64) = true := by rw [bne_iff_ne]; omega
  have hi8 : (Try.prog.info? 23).map (·.size) = some Z8.size := info8
  go_enter Try.func14, Try.ntmps14
  go_wp2_with (first | (refine wpList_box_row (by rfl) 23 (.tmp 0) (by rfl) (some 2) (by rfl) b (by exact (unhide HBW).symm) st (by rfl) ?_; intro W1 HR1 HB1 HS1) | (refine wpList_alloc_row (by rfl) 23 (by rfl) (some 4) (by rfl) (b + 1) (by exact unhide HS1) Z8 zero8 ?_; intro W2 HR2 HB2 HS2) | (refine wpList_buildTo (by rfl) 23 #[] (by rfl) (some 10) (by rfl) Z8 (by kernel_rfl) ?_) | (refine wpList_store_u1 rfl 23 (.tmp 4) (.tmp 10) rfl (b + 1) Z8 rfl rfl 23 Z8 (unhide HR2) hi8 rfl (by kernel_rfl) ?_; intro W3 HR3 HU3))
  refine bodyPost_ret (results_row_tmp rfl _ _ (b + 1) 23 Z8 (0, 0) _ _ rfl (unhide HR3) hu hi8) rfl ?_
  have hbw := unhide HBW
  refine ⟨rfl, ?_⟩
  rw [← hbw]
  exact ((unhide HB1).trans ((unhide HB2).mono (by omega))).trans ((unhide HU3).toBelow (by have := unhide HS2; omega) (by omega))
set_option maxRecDepth 100000 in
theorem mBlockNo (st : Array Value) (ao : Option Addr) (n cap : Nat) (hn : n ≠ 64) (w : World) :
    Calls Try.prog 13 #[.agg st, .slice ao n cap] w fun e w' => e = .returned (.tuple #[.agg Z8, .int .i64 1]) ∧ Below w.heap.size w w' := by
  obtain ⟨b, hbw⟩ : ∃ b, b = w.heap.size := ⟨_, rfl⟩
  have HBW := hide hbw
  clear hbw
  have hu := Try.underlying23
  have hni : ((n : Int) != 64) = true := by rw [bne_iff_ne]; omega
  have hi8 : (Try.prog.info? 23).map (·.size) = some Z8.size := info8
  go_enter Try.func13, Try.ntmps13
  go_wp2_with (first | (refine wpList_box_row (by rfl) 23 (.tmp 0) (by rfl) (some 2) (by rfl) b (by exact (unhide HBW).symm) st (by rfl) ?_; intro W1 HR1 HB1 HS1) | (refine wpList_alloc_row (by rfl) 23 (by rfl) (some 4) (by rfl) (b + 1) (by exact unhide HS1) Z8 zero8 ?_; intro W2 HR2 HB2 HS2) | (refine wpList_buildTo (by rfl) 23 #[] (by rfl) (some 9) (by rfl) Z8 (by kernel_rfl) ?_) | (refine wpList_store_u1 rfl 23 (.tmp 4) (.tmp 9) rfl (b + 1) Z8 rfl rfl 23 Z8 (unhide HR2) hi8 rfl (by kernel_rfl) ?_; intro W3 HR3 HU3))
  refine bodyPost_ret (results_row_tmp rfl _ _ (b + 1) 23 Z8 (0, 0) _ _ rfl (unhide HR3) hu hi8) rfl ?_
  have hbw := unhide HBW
  refine ⟨rfl, ?_⟩
  rw [← hbw]
  exact ((unhide HB1).trans ((unhide HB2).mono (by omega))).trans ((unhide HU3).toBelow (by have := unhide HS2; omega) (by omega))
end Go.Proofs.Ytpbifpbblinopaa
