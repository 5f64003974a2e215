/- Sketches: the places of an item. -/
import Derived.Test.YtdmdenbpokmelaaSkb
namespace Go.Proofs.Ytdmdenbpokmelaa.K
open Go.RowKit Go.Lib
theorem hcSame {w : World} {g : Nat} {cs : Array Value} {t : TypeId} {fr : Nat × Nat} (h : w.heap[g]? = some (.cells cs t fr)) (k : Nat) (v : Value) : (w.setCell ⟨g, k, none⟩ v).heap[g]? = some (.cells (cs.setIfInBounds k v) t fr) := by
  simp [World.setCell, Array.getElem?_modify, h]
theorem hcOther {w : World} {g k i : Nat} {v : Value} (h : i ≠ g) : (w.setCell ⟨g, k, none⟩ v).heap[i]? = w.heap[i]? := by
  simp [World.setCell, Array.getElem?_modify, Ne.symm h]
theorem frz0 {w : World} {g : Nat} {cs : Array Value} {t : TypeId} (h : w.heap[g]? = some (.cells cs t (0, 0))) (j : Nat) : w.frozen? ⟨g, j, none⟩ = false := by simp [World.frozen?, h]
theorem belowCell {B : Nat} {a w : World} (h : Below B a w) {g : Nat} (hg : B ≤ g) (k : Nat) (v : Value) : Below B a (w.setCell ⟨g, k, none⟩ v) :=
  ⟨h.os, h.tape, h.output, by simpa [World.setCell] using h.size, fun i hi => (hcOther (by omega)).trans (h.block i hi)⟩
theorem heapOld {w : World} (o : Obj) {k : Nat} {x : Obj} (h : w.heap[k]? = some x) : (w.alloc o).heap[k]? = some x := (Below.heap_alloc w o k (Array.getElem?_eq_some_iff.1 h).1).trans h
theorem w1 (n : Nat) (h : n ≤ 1000000) : wrap64 (n : Int) = (n : Int) := by simp only [wrap64]; omega
theorem w2 (q r : Nat) (hq : q ≤ 100000) (hr : r ≤ 100000) : wrap64 (wrap64 (q : Int) + wrap64 (r : Int)) = ((q + r : Nat) : Int) := by
  rw [w1 q (by omega), w1 r (by omega), ← Int.natCast_add, w1 _ (by omega)]
def plA (x : BitVec 64) (n : Nat) : Array Value := #[.int .i64 (plc x n 0), .int .i64 (plc x n 1), .int .i64 (plc x n 2)]
/-- as far as they are laid -/
def plU (x : BitVec 64) (n i : Nat) : Array Value := #[.int .i64 ((if 0 < i then plc x n 0 else 0 : Nat) : Int), .int .i64 ((if 1 < i then plc x n 1 else 0 : Nat) : Int), .int .i64 ((if 2 < i then plc x n 2 else 0 : Nat) : Int)]
theorem plU_next (x : BitVec 64) (n i : Nat) (hi : i < 3) : (plU x n i).setIfInBounds i (.int .i64 (plc x n i)) = plU x n (i + 1) := by
  rcases (by omega : i = 0 ∨ i = 1 ∨ i = 2) with rfl | rfl | rfl <;> simp [plU]
theorem plU_all (x : BitVec 64) (n : Nat) : plU x n 3 = plA x n := by
  unfold plU plA
  rw [if_pos (by decide), if_pos (by decide), if_pos (by decide)]
theorem plU_zero (x : BitVec 64) (n : Nat) : plU x n 0 = #[.int .i64 0, .int .i64 0, .int .i64 0] := by
  unfold plU
  rw [if_neg (by decide), if_neg (by decide), if_neg (by decide)]
  rfl
theorem plA_size (x : BitVec 64) (n : Nat) : (plA x n).size = 3 := by unfold plA; exact rfl
theorem plU_cell (x : BitVec 64) (n i j : Nat) (hj : j < 3) : ∃ v, (plU x n i)[j]? = some v := by
  have h : j < (plU x n i).size := hj
  exact ⟨_, Array.getElem?_eq_getElem h⟩
theorem int3 : (Try.prog.info? 75).map (·.size) = some 3 := by kernel_rfl
theorem int3z : ((Try.prog.info? 75).bind (·.zero)).map (·.cells) = some #[.int .i64 0, .int .i64 0, .int .i64 0] := by kernel_rfl
set_option maxRecDepth 100000 in
set_option maxHeartbeats 2000000 in
theorem kPlaces (x : BitVec 64) (n : Nat) (h3 : 3 ≤ n) (hn : n ≤ 256) (u : World) : Calls Try.prog 40 #[.int .u64 x.toNat, .int .i64 (n : Int)] u fun e u' => e = .returned (.agg (plA x n)) ∧ Below u.heap.size u u' := by
  obtain ⟨k, hk⟩ : ∃ k, k = n / 3 := ⟨_, rfl⟩
  have hkq : (n : Int).tdiv 3 = (k : Int) := by rw [hk]; exact (Int.natCast_ediv n 3).symm ▸ (Int.tdiv_eq_ediv_of_nonneg (by omega))
  have hkd : (n : Int) / 3 = (k : Int) := by omega
  have HK1 : Hid (1 ≤ k ∧ k ≤ 85) := by show 1 ≤ k ∧ k ≤ 85; omega
  have HPL : Hid (∀ j, j < 3 → plc x n j = j * k + (mixB x (BitVec.ofNat 64 j)).toNat % k) := by show ∀ j, j < 3 → _; intro j _; rw [hk]; unfold plc; exact rfl
  have HM := hide (kMixN x)
  clear hk
  go_enter Try.func40, Try.ntmps40
  go_wp2
  obtain ⟨Z, hZ⟩ : ∃ Z : Array Value, Z = #[.int .i64 0, .int .i64 0, .int .i64 0] := ⟨_, rfl⟩
  have HX2 : Hid (((u.alloc (.cells Z 75)).alloc (.cells Z 75)).heap[u.heap.size + 1]? = some (.cells (plU x n 0) 75 (0, 0))) := by
    show _ = _
    have h := heap_alloc_new (u.alloc (.cells Z 75)) (.cells Z 75)
    rw [World.size_alloc] at h
    rw [h, hZ, plU_zero]
  have HX0 : Hid (((u.alloc (.cells Z 75)).alloc (.cells Z 75)).heap[u.heap.size]? = some (.cells Z 75 (0, 0))) := by
    show _ = _
    exact heapOld _ (heap_alloc_new _ _)
  have HB0 : Hid (Below u.heap.size u ((u.alloc (.cells Z 75)).alloc (.cells Z 75))) := ((Below.refl _ _).alloc (Nat.le_refl _) _).alloc (by simp) _
  rw [← hZ]
  generalize (u.alloc (.cells Z 75)).alloc (.cells Z 75) = U at *
  go_loopw [10] (fun v wr => ∃ i : Nat, i ≤ 3 ∧ v = .int .i64 i ∧ Hid (wr.heap[u.heap.size + 1]? = some (.cells (plU x n i) 75 (0, 0))) ∧ Hid (Below u.heap.size u wr) ∧ Hid (wr.heap[u.heap.size]? = some (.cells Z 75 (0, 0)))) (fun v _ => 3 - (intOf v).toNat)
  case atStart => exact ⟨0, by omega, rfl, HX2, HB0, HX0⟩
  case round =>
    clear HX2 HB0 HX0
    obtain ⟨i, hi, rfl, HX, HB, HX0⟩ := hrel
    by_cases hlt : i < 3
    · have hii : (i : Int) < 3 := by omega
      have HMi := hide (unhide HM i (by omega))
      have HPi := hide (unhide HPL i hlt)
      have HPX := hide (plU_next x n i hlt)
      generalize (mixB x (BitVec.ofNat 64 i)).toNat = m at *
      generalize plc x n i = p at *
      obtain ⟨q, hq⟩ : ∃ q, q = i * k := ⟨_, rfl⟩
      have HQ := hide hq
      have hqi : (i : Int) * (k : Int) = (q : Int) := by rw [hq]; exact (Int.natCast_mul i k).symm
      clear hq
      clear HM HPL
      obtain ⟨vc, hvc⟩ := plU_cell x n i i hlt
      have hc := S.arr_cell (unhide HX) hvc
      have hf := frz0 (unhide HX) i
      clear hvc
      have hu := unhide HK1
      have hk0 : ¬ ((k : Int) = 0) := by omega
      have hiw : IntKind.u64.wrap (i : Int) = (i : Int) := by rw [IntKind.wrap_u64]; omega
      have hkw : IntKind.u64.wrap (k : Int) = (k : Int) := by rw [IntKind.wrap_u64]; omega
      clear hu
      go_wp2_with (first
        | (go_at_call 53; refine (unhide HMi _).mono ?_; rintro e wq ⟨rfl, hwq⟩; obtain rfl := hwq.symm; clear HMi)
        | fail)
      go_roundw
      case rel =>
        have hp : wrap64 (wrap64 (q : Int) + wrap64 ((m : Int) % (k : Int))) = (p : Int) := by
          have h1 := unhide HPi
          have h2 := unhide HQ
          have h3 := unhide HK1
          rw [← h2] at h1
          have h4 : (m : Int) % (k : Int) = ((m % k : Nat) : Int) := (Int.natCast_emod m k).symm
          have h5 := Nat.mod_lt m (show 0 < k by omega)
          have h6 : q ≤ 2 * k := by rw [h2]; exact Nat.mul_le_mul_right _ (by omega)
          rw [h4, h1]
          exact w2 _ _ (by omega) (by omega)
        rw [hp]
        refine ⟨i + 1, by omega, by go_num, ?_, belowCell (unhide HB) (Nat.le_succ _) _ _, (hcOther (by omega)).trans (unhide HX0)⟩
        rw [← unhide HPX]
        exact hcSame (unhide HX) _ _
      case measure => simp [intOf]; omega
    · obtain rfl : i = 3 := by omega
      have hki : ¬ ((3 : Nat) : Int) < 3 := by decide
      have hpl : plU x n 3 = plA x n := plU_all x n
      rw [hpl] at HX
      have HSA : Hid ((Try.prog.info? 75).map (·.size) = some (plA x n).size) := by show _ = _; rw [plA_size]; exact int3
      have HSZ : Hid (Z.size = (plA x n).size) := by show _ = _; rw [hZ, plA_size]; exact rfl
      have HON : Hid ((plA x n).all (·.oneCell') = true) := by show _ = _; simp [plA, Value.oneCell']
      obtain ⟨A, hA⟩ : ∃ A, A = plA x n := ⟨_, rfl⟩
      rw [← hA] at HSA HSZ HON HX
      have HA := hide hA
      clear hA hpl hZ HM HPL
      go_wp2_with (first
        | ((with_reducible refine wpList_load_row (by rfl) _ (.tmp 6) (by rfl) (u.heap.size + 1) (by with_unfolding_all rfl) _ A _ _ (unhide HX) Try.underlying75 rfl (unhide HSA) ?_); simp only [Act.put, List.setIfInBounds_toArray, List.set_cons_zero, List.set_cons_succ])
        | ((with_reducible refine S.wpList_store_hid (by rfl) _ (.tmp 4) (.tmp 28) (by rfl) u.heap.size _ (by with_unfolding_all rfl) (by with_unfolding_all rfl) _ _ (unhide HX0) (unhide HSA) (unhide HSZ) (unhide HON) ?_); intro W3 HX3 HE3; simp only [Act.put])
        | fail)
      refine bodyPost_ret (results_cell_row rfl _ _ u.heap.size 75 A (0, 0) _ rfl (unhide HX3) Try.underlying75 rfl (unhide HSA)) rfl ?_
      refine ⟨by rw [unhide HA], ?_⟩
      rw [unhide HE3]
      exact S.belowRow (unhide HB) (Nat.le_refl _) _
end Go.Proofs.Ytdmdenbpokmelaa.K
