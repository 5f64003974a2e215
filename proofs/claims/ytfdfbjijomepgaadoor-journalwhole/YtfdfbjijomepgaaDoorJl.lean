/- The journal: the batch that a header and slots tell. -/
import Derived.Test.YtfdfbjijomepgaaDoorJk
namespace Go.Proofs.YtfdfbjijomepgaaDoor
open Go.RowKit

def slotD (slots : List Pg) (i : Nat) : Pg := slots.getD i Pg.zero
/-- behind k slots -/
def fillK (L slots : List Pg) : Nat → List Pg
  | 0 => L
  | k + 1 => (fillK L slots k).set k ⟨(L.getD k Pg.zero).kind, (L.getD k Pg.zero).num, (slotD slots k).ser, (slotD slots k).body⟩
theorem fillK_len (L slots : List Pg) : ∀ k, (fillK L slots k).length = L.length
  | 0 => rfl
  | k + 1 => by simp only [fillK, List.length_set]; exact fillK_len L slots k
theorem fillK_rest (L slots : List Pg) : ∀ k j, k ≤ j → (fillK L slots k)[j]? = L[j]?
  | 0, _, _ => rfl
  | k + 1, j, h => by
    simp only [fillK]
    rw [List.getElem?_set_ne (by omega)]
    exact fillK_rest L slots k j (by omega)
def batchOk (h : Pg) (slots : List Pg) : Prop := h.kind = 74 ∧ h.ser ≠ 0 ∧ listOk h.body slots.length ∧ ∀ i, i < (listed h.body slots.length).1.length → (slotD slots i).kind = 67 ∧ (slotD slots i).ser = h.ser
def batchL (h : Pg) (slots : List Pg) : List Pg := fillK (listed h.body slots.length).1 slots (listed h.body slots.length).1.length
theorem Pgs.slot {u : World} {ao : Option Addr} {l : List Pg} (h : Pgs u ao l) (i : Nat) (hi : i < l.length) : ∃ g o, ao = some ⟨g, o, none⟩ ∧ u.rangeAt g (o + i * 4) (slotD l i).cs.toList ∧ g < u.heap.size := by
  obtain ⟨g, o, h1, h2⟩ := h (by omega)
  have e : slotD l i = l[i] := by rw [slotD, List.getD_eq_getElem?_getD, List.getElem?_eq_getElem hi]; rfl
  refine ⟨g, o, h1, fun j v hv => ?_, ?_⟩
  · rw [e] at hv
    have hj : j < 4 := (List.getElem?_eq_some_iff.1 hv).1
    rw [h2 i hi j hj, ← Array.getElem?_toList]
    exact hv
  · have h3 := h2 i hi 0 (by decide)
    have hs : 0 < (l[i].cs).size := by show 0 < 4; decide
    rw [Array.getElem?_eq_getElem hs] at h3
    exact World.block_lt_of_cell? u _ h3
open Classical in
set_option maxRecDepth 100000 in
set_option maxHeartbeats 4000000 in
theorem jBatch (h : Pg) (hs : h.body.size ≤ 100000) (slots : List Pg) (hn : slots.length ≤ 4096) (ao : Option Addr) (cap : Nat) (u : World) (hP : Pgs u ao slots) :
    Calls Tryd.prog 41 #[.agg h.cs, .slice ao slots.length cap] u fun e u' => (batchOk h slots → ∃ G, e = .returned (.tuple #[.slice (some ⟨G, 0, none⟩) (batchL h slots).length (batchL h slots).length, .bool true]) ∧ u.heap.size ≤ G ∧ Rp u' G (batchL h slots)) ∧ (¬ batchOk h slots → e = .returned (.tuple #[.slice none 0 0, .bool false])) ∧ Below u.heap.size u u' := by
  obtain ⟨N, hN⟩ : ∃ N, N = u.heap.size := ⟨_, rfl⟩
  have HN := hide hN
  obtain ⟨m, hm⟩ : ∃ m, m = slots.length := ⟨_, rfl⟩
  have HM := hide hm
  have HP := hide hP
  have HLS := hide (fun w => jListed h.body hs slots.length hn w)
  rw [← hm] at HLS
  obtain ⟨C, hC⟩ : ∃ C, C = h.cs := ⟨_, rfl⟩
  have HC0 : Hid (C[0]? = some (.int .u8 (h.kind : Int)) ∧ C[2]? = some (.int .u64 (h.ser : Int)) ∧ C[3]? = some (.string h.body)) := by rw [hC]; exact ⟨rfl, rfl, rfl⟩
  have HBO : Hid (batchOk h slots ↔ h.kind = 74 ∧ h.ser ≠ 0 ∧ listOk h.body m ∧ ∀ i, i < (listed h.body m).1.length → (slotD slots i).kind = 67 ∧ (slotD slots i).ser = h.ser) := by rw [hm]; exact Iff.rfl
  have HBL : Hid (batchL h slots = fillK (listed h.body m).1 slots (listed h.body m).1.length) := by show _ = _; rw [hm]; rfl
  have hmi : (m : Int) ≤ 4096 := by omega
  rw [← hC, ← hm, ← hN]
  generalize h.kind = kd at *
  generalize h.ser = sr at *
  generalize h.body = bd at *
  clear hN hm hP hC hn
  by_cases hk' : ¬ kd = 74
  · have HNO : Hid (¬ batchOk h slots) := fun hx => hk' ((unhide HBO).1 hx).1
    have hk1 : ¬ (kd : Int) = 74 := by omega
    go_enter Tryd.func41, Tryd.ntmps41
    go_wp2_with (first | (refine wpList_box_row (by rfl) 70 (.tmp 0) (by rfl) (some 2) (by rfl) N (by exact (unhide HN).symm) C (by rfl) ?_; intro W1 HX1 HB1 HS1; simp only [Act.put, List.setIfInBounds_toArray, List.set_cons_zero, List.set_cons_succ]; have c0 : W1.cell? ⟨N, 0, none⟩ = some (.int .u8 (kd : Int)) := (by rw [cell_of_row W1 N 0 _ _ _ (unhide HX1)]; exact (unhide HC0).1); have c2 : W1.cell? ⟨N, 2, none⟩ = some (.int .u64 (sr : Int)) := (by rw [cell_of_row W1 N 2 _ _ _ (unhide HX1)]; exact (unhide HC0).2.1); have c3 : W1.cell? ⟨N, 3, none⟩ = some (.string bd) := (by rw [cell_of_row W1 N 3 _ _ _ (unhide HX1)]; exact (unhide HC0).2.2)))
    go_ret2
    exact ⟨fun hx => absurd hx (unhide HNO), fun _ => rfl, unhide HB1⟩
  have hk := Decidable.not_not.1 hk'
  have hk1 : (kd : Int) = 74 := by omega
  clear hk'
  by_cases hz : sr = 0
  · have HNO : Hid (¬ batchOk h slots) := fun hx => ((unhide HBO).1 hx).2.1 hz
    have hz1 : (sr : Int) = 0 := by omega
    clear hz hk
    go_enter Tryd.func41, Tryd.ntmps41
    go_wp2_with (first | (refine wpList_box_row (by rfl) 70 (.tmp 0) (by rfl) (some 2) (by rfl) N (by exact (unhide HN).symm) C (by rfl) ?_; intro W1 HX1 HB1 HS1; simp only [Act.put, List.setIfInBounds_toArray, List.set_cons_zero, List.set_cons_succ]; have c0 : W1.cell? ⟨N, 0, none⟩ = some (.int .u8 (kd : Int)) := (by rw [cell_of_row W1 N 0 _ _ _ (unhide HX1)]; exact (unhide HC0).1); have c2 : W1.cell? ⟨N, 2, none⟩ = some (.int .u64 (sr : Int)) := (by rw [cell_of_row W1 N 2 _ _ _ (unhide HX1)]; exact (unhide HC0).2.1); have c3 : W1.cell? ⟨N, 3, none⟩ = some (.string bd) := (by rw [cell_of_row W1 N 3 _ _ _ (unhide HX1)]; exact (unhide HC0).2.2)))
    go_ret2
    exact ⟨fun hx => absurd hx (unhide HNO), fun _ => rfl, unhide HB1⟩
  have hz1 : ¬ (sr : Int) = 0 := by omega
  have HKZ : Hid (kd = 74 ∧ sr ≠ 0) := ⟨hk, hz⟩
  clear hk hz
  go_enter Tryd.func41, Tryd.ntmps41
  go_wp2_with (first | (refine wpList_box_row (by rfl) 70 (.tmp 0) (by rfl) (some 2) (by rfl) N (by exact (unhide HN).symm) C (by rfl) ?_; intro W1 HX1 HB1 HS1; simp only [Act.put, List.setIfInBounds_toArray, List.set_cons_zero, List.set_cons_succ]; have c0 : W1.cell? ⟨N, 0, none⟩ = some (.int .u8 (kd : Int)) := (by rw [cell_of_row W1 N 0 _ _ _ (unhide HX1)]; exact (unhide HC0).1); have c2 : W1.cell? ⟨N, 2, none⟩ = some (.int .u64 (sr : Int)) := (by rw [cell_of_row W1 N 2 _ _ _ (unhide HX1)]; exact (unhide HC0).2.1); have c3 : W1.cell? ⟨N, 3, none⟩ = some (.string bd) := (by rw [cell_of_row W1 N 3 _ _ _ (unhide HX1)]; exact (unhide HC0).2.2)) | fail)
  refine (unhide HLS W1).mono ?_
  rintro e w2 ⟨G, rfl, hG, hR, hb⟩
  have HB2 : Hid (Below N u w2 ∧ N < G) := by
    have h1 := (unhide HB1).size
    have h2 := (Array.getElem?_eq_some_iff.1 (unhide HX1)).1
    rw [← unhide HN] at h1
    exact ⟨(unhide HB1).trans (hb.mono (by omega)), by omega⟩
  have HX2 : Hid (w2.heap[N]? = some (.cells C 70 (0, 0))) := (hb.block N (Array.getElem?_eq_some_iff.1 (unhide HX1)).1).trans (unhide HX1)
  have HR2 := hide hR
  obtain ⟨L, hL⟩ : ∃ L, L = (listed bd m).1 := ⟨_, rfl⟩
  have hLm : L.length ≤ m := by rw [hL]; exact listed_len bd m
  rw [← hL] at HR2 HBO HBL ⊢
  have HLL := hide hL
  clear hG hR hb HB1 HX1 HS1 c0 c2 c3 HLS hL
  obtain ⟨n, hn⟩ : ∃ n, n = L.length := ⟨_, rfl⟩
  have HNL := hide hn
  rw [← hn]
  rw [← hn] at HBO HBL hLm
  clear hn
  have hni : (n : Int) ≤ 4096 := by omega
  by_cases hlo' : ¬ listOk bd m
  · have HNO : Hid (¬ batchOk h slots) := fun hx => hlo' ((unhide HBO).1 hx).2.2.1
    rw [decide_eq_false hlo']
    go_wp2
    go_ret2
    exact ⟨fun hx => absurd hx (unhide HNO), fun _ => rfl, (unhide HB2).1⟩
  have hlo := Classical.not_not.1 hlo'
  clear hlo'
  rw [decide_eq_true hlo]
  have HLO := hide hlo
  clear hlo
  go_wp2
  go_loopw [30] (fun i wr => ∃ k : Nat, k ≤ n ∧ i = .int .i64 k ∧ Hid (Rp wr G (fillK L slots k) ∧ wr.heap[N]? = some (.cells C 70 (0, 0)) ∧ (∀ j, j < k → (slotD slots j).kind = 67 ∧ (slotD slots j).ser = sr) ∧ Below N u wr)) (fun i _ => n - (intOf i).toNat)
  case atStart => exact ⟨0, Nat.zero_le _, rfl, unhide HR2, unhide HX2, fun j hj => absurd hj (Nat.not_lt_zero _), (unhide HB2).1⟩
  case round =>
    clear HR2 HX2
    obtain ⟨k, hk, rfl, HI⟩ := hrel
    have HGN : Hid (N < G) := (unhide HB2).2
    by_cases hlt : k < n
    · have hki : (k : Int) < (n : Int) := by omega
      have hkm : k < slots.length := by rw [← unhide HM]; omega
      obtain ⟨g, o, hao, hrange, hgl⟩ := ((unhide HP).below (by rw [← unhide HN]; exact (unhide HI).2.2.2)).slot k hkm
      subst hao
      have hix := ixPages g o m cap k (by omega)
      obtain ⟨S, hS⟩ : ∃ S, S = (slotD slots k).cs := ⟨_, rfl⟩
      rw [← hS] at hrange
      have HRS := hide hrange
      have HSI : Hid ((Tryd.prog.info? 70).map (·.size) = some S.toList.length ∧ (Tryd.prog.info? 70).map (·.size) = some S.size ∧ S.all (·.oneCell') = true ∧ 4 = S.size) := by rw [hS]; exact ⟨pgInfo, pgInfo, by simp [Pg.cs, Value.oneCell'], rfl⟩
      obtain ⟨sk, hsk⟩ : ∃ z, z = (slotD slots k).kind := ⟨_, rfl⟩
      obtain ⟨ss, hss⟩ : ∃ z, z = (slotD slots k).ser := ⟨_, rfl⟩
      obtain ⟨sb, hsb⟩ : ∃ z, z = (slotD slots k).body := ⟨_, rfl⟩
      have HS0 : Hid (S[0]? = some (.int .u8 (sk : Int)) ∧ S[2]? = some (.int .u64 (ss : Int)) ∧ S[3]? = some (.string sb)) := by rw [hS, hsk, hss, hsb]; exact ⟨rfl, rfl, rfl⟩
      obtain ⟨M, hM⟩ : ∃ M, M = wr.heap.size := ⟨_, rfl⟩
      have HMn := hide hM
      have HSK := hide (And.intro hsk (And.intro hss hsb))
      clear hrange hS hsk hss hsb hM hgl
      by_cases hgood : sk = 67 ∧ ss = sr
      · have h67 : (sk : Int) = 67 := by omega
        have h67n := hgood.1
        obtain rfl := hgood.2.symm
        clear hgood
        have HGD := hide h67n
        clear h67n
        go_wp2_with (first
          | (refine wpList_load_mid (by rfl) 70 (.tmp 35) (by rfl) g (o + k * 4) (by rfl) S.toList _ (unhide HRS) pgUnd rfl (unhide HSI).1 ?_; simp only [Act.put, List.setIfInBounds_toArray, List.set_cons_zero, List.set_cons_succ, Array.toArray_toList])
          | (refine wpList_alloc_row (by rfl) 70 (by rfl) (some 9) (by rfl) M (by exact (unhide HMn).symm) _ zeroPg ?_; intro W4 HX4 HB4 HS4; simp only [Act.put, List.setIfInBounds_toArray, List.set_cons_zero, List.set_cons_succ])
          | (refine wpList_store_row (by rfl) 70 (.tmp 9) (.tmp 36) (by rfl) M S (by rfl) (by rfl) 70 _ (unhide HX4) (unhide HSI).2.1 (unhide HSI).2.2.2 (unhide HSI).2.2.1 ?_; simp only [Act.put]
             have HXC : Hid ((W4.setRow M S).heap[M]? = some (.cells S 70 (0, 0))) := heapRow_same (unhide HX4) _
             have HBC : Hid (Below M wr (W4.setRow M S)) := (by
               have hb2 := unhide HB4
               exact ⟨hb2.os, hb2.tape, hb2.output, by simpa [World.setRow] using hb2.size, fun q hq => (heapRow_other W4 _ q _ (by omega)).trans (hb2.block q hq)⟩)
             obtain ⟨W5, hW5⟩ : ∃ z, z = W4.setRow M S := ⟨_, rfl⟩
             rw [← hW5] at HXC HBC ⊢
             clear hW5
             have d0 : W5.cell? ⟨M, 0, none⟩ = some (.int .u8 (sk : Int)) := (by rw [cell_of_row W5 M 0 _ _ _ (unhide HXC)]; exact (unhide HS0).1)
             have d2 : W5.cell? ⟨M, 2, none⟩ = some (.int .u64 (sr : Int)) := (by rw [cell_of_row W5 M 2 _ _ _ (unhide HXC)]; exact (unhide HS0).2.1)
             have d3 : W5.cell? ⟨M, 3, none⟩ = some (.string sb) := (by rw [cell_of_row W5 M 3 _ _ _ (unhide HXC)]; exact (unhide HS0).2.2)
             have c2 : W5.cell? ⟨N, 2, none⟩ = some (.int .u64 (sr : Int)) := (by
               have hNM : N < M := (by rw [unhide HMn]; exact (Array.getElem?_eq_some_iff.1 (unhide HI).2.1).1)
               rw [cell_of_row W5 N 2 _ _ _ (((unhide HBC).block N hNM).trans (unhide HI).2.1)]; exact (unhide HC0).2.1)
             have HR5 : Hid (Rp W5 G (fillK L slots k)) := (unhide HI).1.same ((unhide HBC).block G (by rw [unhide HMn]; exact (unhide HI).1.lt))
             have HN5 : Hid (W5.heap[N]? = some (.cells C 70 (0, 0))) := ((unhide HBC).block N (by rw [unhide HMn]; exact (Array.getElem?_eq_some_iff.1 (unhide HI).2.1).1)).trans (unhide HI).2.1
             have HB5 : Hid (Below N u W5) := (unhide HI).2.2.2.trans ((unhide HBC).mono (by rw [unhide HMn]; have := (Array.getElem?_eq_some_iff.1 (unhide HI).2.1).1; omega))))
        have hkG : k < (fillK L slots k).length := by rw [fillK_len, ← unhide HNL]; exact hlt
        have hgk : (fillK L slots k)[k] = L.getD k Pg.zero := by
          have h1 := fillK_rest L slots k k (Nat.le_refl _)
          rw [List.getElem?_eq_getElem hkG] at h1
          rw [List.getD_eq_getElem?_getD, ← h1]
          rfl
        have hMG : ¬ M = G := by have := (unhide HI).1.lt; have := unhide HMn; omega
        have hMG2 : ¬ G = M := fun e => hMG e.symm
        have hixG := ixPages G 0 n n k hlt
        rw [Nat.zero_add] at hixG
        obtain ⟨x2, g2⟩ : ∃ x2, W5.cell? ⟨G, k * 4 + 2, none⟩ = some x2 := by
          have := (unhide HR5).cell k hkG 2 (by decide)
          exact ⟨_, this.trans rfl⟩
        obtain ⟨x3, g3⟩ : ∃ x3, W5.cell? ⟨G, k * 4 + 3, none⟩ = some x3 := by
          have := (unhide HR5).cell k hkG 3 (by decide)
          exact ⟨_, this.trans rfl⟩
        have f2 := (unhide HR5).frozen (k * 4 + 2)
        have f3 := (unhide HR5).frozen (k * 4 + 3)
        have HX : Hid (∀ V : World, V.heap[G]? = W5.heap[G]? → Rp ((V.setCell ⟨G, k * 4 + 2, none⟩ (.int .u64 (sr : Int))).setCell ⟨G, k * 4 + 3, none⟩ (.string sb)) G (fillK L slots (k + 1))) := fun V hV => by
          have r0 : Rp V G (fillK L slots k) := (unhide HR5).same hV
          have r1 := r0.set k hkG 2 (by decide) ⟨(L.getD k Pg.zero).kind, (L.getD k Pg.zero).num, sr, (L.getD k Pg.zero).body⟩ (fun j hj hne => by
            rw [hgk]
            match j, hj, hne with
            | 0, _, _ => rfl
            | 1, _, _ => rfl
            | 3, _, _ => rfl) (.int .u64 (sr : Int)) rfl
          have hk2 : k < ((fillK L slots k).set k ⟨(L.getD k Pg.zero).kind, (L.getD k Pg.zero).num, sr, (L.getD k Pg.zero).body⟩).length := by rw [List.length_set]; exact hkG
          have r2 := r1.set k hk2 3 (by decide) ⟨(L.getD k Pg.zero).kind, (L.getD k Pg.zero).num, sr, sb⟩ (fun j hj hne => by
            rw [List.getElem_set_self]
            match j, hj, hne with
            | 0, _, _ => rfl
            | 1, _, _ => rfl
            | 2, _, _ => rfl
            | 3, _, hne => exact absurd rfl hne) (.string sb) rfl
          rw [List.set_set] at r2
          rw [fillK, ← (unhide HSK).2.1, ← (unhide HSK).2.2]
          exact r2
        clear hkG hgk
        generalize k * 4 = j4 at *
        go_region
        have HY : Hid (Rp ((W5.setCell ⟨G, j4 + 2, none⟩ (.int .u64 (sr : Int))).setCell ⟨G, j4 + 3, none⟩ (.string sb)).drew G (fillK L slots (k + 1)) ∧ ((W5.setCell ⟨G, j4 + 2, none⟩ (.int .u64 (sr : Int))).setCell ⟨G, j4 + 3, none⟩ (.string sb)).drew.heap[N]? = some (.cells C 70 (0, 0)) ∧ (∀ j, j < k + 1 → (slotD slots j).kind = 67 ∧ (slotD slots j).ser = sr) ∧ Below N u ((W5.setCell ⟨G, j4 + 2, none⟩ (.int .u64 (sr : Int))).setCell ⟨G, j4 + 3, none⟩ (.string sb)).drew) := by
          have hGN := unhide HGN
          refine ⟨(unhide HX W5 rfl).same rfl, ?_, fun j hj => ?_, ?_⟩
          · refine (Deep.blk_setCell_other (W5.setCell ⟨G, j4 + 2, none⟩ (.int .u64 (sr : Int))) ⟨G, j4 + 3, none⟩ _ N (by show N ≠ G; omega)).trans ?_
            exact (Deep.blk_setCell_other W5 ⟨G, j4 + 2, none⟩ _ N (by show N ≠ G; omega)).trans (unhide HN5)
          · rcases Nat.lt_or_ge j k with h' | h'
            · exact (unhide HI).2.2.1 j h'
            · obtain rfl : j = k := by omega
              exact ⟨by rw [← (unhide HSK).1]; exact unhide HGD, (unhide HSK).2.1.symm⟩
          · have b1 := belowC (belowC (unhide HB5) (p := ⟨G, j4 + 2, none⟩) (by show N ≤ G; omega) (.int .u64 (sr : Int))) (p := ⟨G, j4 + 3, none⟩) (by show N ≤ G; omega) (.string sb)
            exact ⟨b1.os, b1.tape, b1.output, b1.size, b1.block⟩
        go_wp2
        go_roundw
        case rel => exact ⟨k + 1, by omega, by go_num, unhide HY⟩
        case measure => simp [intOf]; omega
      · have HNO : Hid (¬ batchOk h slots) := fun hx => hgood (by
          have := ((unhide HBO).1 hx).2.2.2 k hlt
          rw [(unhide HSK).1, (unhide HSK).2.1]
          exact this)
        have hcase : (¬ (sk : Int) = 67) ∨ ((sk : Int) = 67 ∧ ¬ (ss : Int) = (sr : Int)) := by omega
        clear hgood
        rcases hcase with h1 | ⟨h1, h2⟩
        all_goals
          go_wp2_with (first
            | (refine wpList_load_mid (by rfl) 70 (.tmp 35) (by rfl) g (o + k * 4) (by rfl) S.toList _ (unhide HRS) pgUnd rfl (unhide HSI).1 ?_; simp only [Act.put, List.setIfInBounds_toArray, List.set_cons_zero, List.set_cons_succ, Array.toArray_toList])
            | (refine wpList_alloc_row (by rfl) 70 (by rfl) (some 9) (by rfl) M (by exact (unhide HMn).symm) _ zeroPg ?_; intro W4 HX4 HB4 HS4; simp only [Act.put, List.setIfInBounds_toArray, List.set_cons_zero, List.set_cons_succ])
            | (refine wpList_store_row (by rfl) 70 (.tmp 9) (.tmp 36) (by rfl) M S (by rfl) (by rfl) 70 _ (unhide HX4) (unhide HSI).2.1 (unhide HSI).2.2.2 (unhide HSI).2.2.1 ?_; simp only [Act.put]
               have HXC : Hid ((W4.setRow M S).heap[M]? = some (.cells S 70 (0, 0))) := heapRow_same (unhide HX4) _
               have HBC : Hid (Below M wr (W4.setRow M S)) := (by
                 have hb2 := unhide HB4
                 exact ⟨hb2.os, hb2.tape, hb2.output, by simpa [World.setRow] using hb2.size, fun q hq => (heapRow_other W4 _ q _ (by omega)).trans (hb2.block q hq)⟩)
               obtain ⟨W5, hW5⟩ : ∃ z, z = W4.setRow M S := ⟨_, rfl⟩
               rw [← hW5] at HXC HBC ⊢
               clear hW5
               have d0 : W5.cell? ⟨M, 0, none⟩ = some (.int .u8 (sk : Int)) := (by rw [cell_of_row W5 M 0 _ _ _ (unhide HXC)]; exact (unhide HS0).1)
               have d2 : W5.cell? ⟨M, 2, none⟩ = some (.int .u64 (ss : Int)) := (by rw [cell_of_row W5 M 2 _ _ _ (unhide HXC)]; exact (unhide HS0).2.1)
               have d3 : W5.cell? ⟨M, 3, none⟩ = some (.string sb) := (by rw [cell_of_row W5 M 3 _ _ _ (unhide HXC)]; exact (unhide HS0).2.2)
               have c2 : W5.cell? ⟨N, 2, none⟩ = some (.int .u64 (sr : Int)) := (by
                 have hNM : N < M := (by rw [unhide HMn]; exact (Array.getElem?_eq_some_iff.1 (unhide HI).2.1).1)
                 rw [cell_of_row W5 N 2 _ _ _ (((unhide HBC).block N hNM).trans (unhide HI).2.1)]; exact (unhide HC0).2.1)
               have HR5 : Hid (Rp W5 G (fillK L slots k)) := (unhide HI).1.same ((unhide HBC).block G (by rw [unhide HMn]; exact (unhide HI).1.lt))
               have HN5 : Hid (W5.heap[N]? = some (.cells C 70 (0, 0))) := ((unhide HBC).block N (by rw [unhide HMn]; exact (Array.getElem?_eq_some_iff.1 (unhide HI).2.1).1)).trans (unhide HI).2.1
               have HB5 : Hid (Below N u W5) := (unhide HI).2.2.2.trans ((unhide HBC).mono (by rw [unhide HMn]; have := (Array.getElem?_eq_some_iff.1 (unhide HI).2.1).1; omega))))
          go_ret2
          exact ⟨fun hx => absurd hx (unhide HNO), fun _ => rfl, unhide HB5⟩
    · have hkk : k = n := by omega
      subst hkk
      have hki : ¬ (k : Int) < (k : Int) := by omega
      have HOK : Hid (batchOk h slots) := (unhide HBO).2 ⟨(unhide HKZ).1, (unhide HKZ).2, unhide HLO, (unhide HI).2.2.1⟩
      have HLN : Hid ((batchL h slots).length = k) := by show _ = _; rw [unhide HBL, fillK_len, unhide HNL]
      go_wp2
      go_ret2
      refine ⟨fun _ => ?_, fun hx => absurd (unhide HOK) hx, (unhide HI).2.2.2⟩
      rw [unhide HLN]
      exact ⟨G, rfl, Nat.le_of_lt (unhide HGN), by rw [unhide HBL]; exact (unhide HI).1⟩
end Go.Proofs.YtfdfbjijomepgaaDoor
