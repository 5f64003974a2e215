/- JournalWhole: mod, outside, foundSame, is that says no. -/
import Derived.Test.YtfdfbjijomepgaaDoorJv
namespace Go.Proofs.YtfdfbjijomepgaaDoor
open Go.RowKit

theorem lMod (n lo hi : Int) (h0 : 0 ≤ lo) (h1 : lo < hi) (h2 : hi ≤ 1000) (w : World) : Calls Tryd.prog 15 #[.int .i64 n, .int .i64 lo, .int .i64 hi] w fun e w' => ∃ r : Nat, e = .returned (.int .i64 (r : Int)) ∧ lo ≤ r ∧ (r : Int) ≤ hi ∧ w' = w := by
  have ht1 : n.tmod (hi - lo + 1) < hi - lo + 1 := Int.tmod_lt_of_pos n (by omega)
  have ht2 : -(hi - lo + 1) < n.tmod (hi - lo + 1) := Int.lt_tmod_of_pos n (by omega)
  go_enter Tryd.func15, Tryd.ntmps15
  go_wp2
  · go_ret
    refine ⟨(lo + (n.tmod (hi - lo + 1) + hi - lo + 1)).toNat, ?_, by omega, by omega, rfl⟩
    rw [Int.toNat_of_nonneg (by omega)]
    rfl
  · go_ret
    refine ⟨(lo + n.tmod (hi - lo + 1)).toNat, ?_, by omega, by omega, rfl⟩
    rw [Int.toNat_of_nonneg (by omega)]
    rfl
theorem lIsF (tp s : Nat) (s' : Nat) (hs : s' ≠ s) (p : Option Addr) (m n : Nat) (bo : Option Addr) (lb cb : Nat) (w : World) :
    Calls Tryd.prog 22 #[.agg #[.int .u64 (tp : Int), .bool true, .int .u64 (s' : Int), .slice p m n], .int .u64 (s : Int), .slice bo lb cb] w fun e w' => e = .returned (.bool false) ∧ Below w.heap.size w w' := by
  obtain ⟨N, hN⟩ : ∃ N, N = w.heap.size := ⟨_, rfl⟩
  have HN := hide hN
  have hss : ¬ (s' : Int) = (s : Int) := by omega
  rw [← hN]
  clear hN hs
  go_enter Tryd.func22, Tryd.ntmps22
  go_wp2_with (first
    | (refine wpList_box_row (by rfl) 44 (.tmp 0) (by rfl) (some 3) (by rfl) N (by exact (unhide HN).symm) #[.int .u64 (tp : Int), .bool true, .int .u64 (s' : Int), .slice p m n] (by rfl) ?_; intro W1 HX1 HB1 HS1; simp only [Act.put, List.setIfInBounds_toArray, List.set_cons_zero, List.set_cons_succ]; have c1 : W1.cell? ⟨N, 1, none⟩ = some (.bool true) := (by rw [cell_of_row W1 N 1 _ _ _ (unhide HX1)]; rfl); have c2 : W1.cell? ⟨N, 2, none⟩ = some (.int .u64 (s' : Int)) := (by rw [cell_of_row W1 N 2 _ _ _ (unhide HX1)]; rfl); have c3 : W1.cell? ⟨N, 3, none⟩ = some (.slice p m n) := (by rw [cell_of_row W1 N 3 _ _ _ (unhide HX1)]; rfl)))
  go_ret
  exact ⟨rfl, unhide HB1⟩
theorem strs_at (l : List (List UInt8)) (k : Nat) (h : k < l.length) : (D.strs l)[k]? = some (.string ⟨(l.getD k []).toArray⟩) := by
  rw [D.strs, List.getElem?_toArray, List.getElem?_map, List.getD_eq_getElem?_getD, List.getElem?_eq_getElem h]
  rfl
theorem ixStrs (g n c i : Nat) (hi : i < n) (W : World) : (Instr.indexAt 38 (.slice (some ⟨g, 0, none⟩) n c) (.int .i64 (i : Int))).run Tryd.prog W = .ok (.pointer (some ⟨g, i, none⟩)) W := by
  have he : Tryd.prog.elem 38 = 9 := by kernel_rfl
  rw [run_indexAt_slice W 38 _ _ _ _ _ (by rw [he]; exact Tryd.underlying38), if_pos ⟨by omega, by omega⟩, he, sizeJ (n := 1) (by kernel_rfl)]
  simp only [Result.andThen_ok, Int.toNat_natCast, Addr.add_mid, Nat.zero_add, Nat.mul_one]
set_option maxRecDepth 100000 in
set_option maxHeartbeats 2000000 in
theorem lOutside (Ga Gb : Nat) (la lb : List (List UInt8)) (n f sl : Nat) (w : World) (ha : w.heap[Ga]? = some (.cells (D.strs la) 9 (0, 0))) (hb : w.heap[Gb]? = some (.cells (D.strs lb) 9 (0, 0))) (hla : la.length = n) (hlb : lb.length = n) (hn : n ≤ 4096) (hf : f + sl ≤ 4096) (he : ∀ i, i < n → (i < f ∨ f + sl < i) → la.getD i [] = lb.getD i []) :
    Calls Tryd.prog 21 #[.slice (some ⟨Ga, 0, none⟩) n n, .slice (some ⟨Gb, 0, none⟩) n n, .int .i64 (f : Int), .int .i64 (sl : Int)] w fun e w' => e = .returned (.bool true) ∧ Below w.heap.size w w' := by
  obtain ⟨N, hN⟩ : ∃ N, N = w.heap.size := ⟨_, rfl⟩
  have HA : Hid (w.heap[Ga]? = some (.cells (D.strs la) 9 (0, 0)) ∧ w.heap[Gb]? = some (.cells (D.strs lb) 9 (0, 0)) ∧ Ga < N ∧ Gb < N ∧ N = w.heap.size) := ⟨ha, hb, by rw [hN]; exact (Array.getElem?_eq_some_iff.1 ha).1, by rw [hN]; exact (Array.getElem?_eq_some_iff.1 hb).1, hN⟩
  have HL := hide (And.intro hla hlb)
  have HE := hide he
  have hni : (n : Int) ≤ 4096 := by omega
  rw [← hN]
  clear ha hb hla hlb he hN
  go_enter Tryd.func21, Tryd.ntmps21
  go_wp2
  go_loopw [9] (fun i wr => ∃ k : Nat, k ≤ n ∧ i = .int .i64 k ∧ Hid (Below N w wr)) (fun i _ => n - (intOf i).toNat)
  case atStart => exact ⟨0, Nat.zero_le _, rfl, Below.refl _ _⟩
  case round =>
    obtain ⟨k, hk, rfl, HI⟩ := hrel
    by_cases hlt : k < n
    · have hki : (k : Int) < (n : Int) := by omega
      obtain ⟨h1, h2, h3, h4, _⟩ := unhide HA
      have ca : wr.cell? ⟨Ga, k, none⟩ = some (.string ⟨(la.getD k []).toArray⟩) := by
        rw [(unhide HI).cell (p := ⟨Ga, k, none⟩) h3]
        exact (cellOf h1 k).trans (strs_at la k (by rw [(unhide HL).1]; exact hlt))
      have cb : wr.cell? ⟨Gb, k, none⟩ = some (.string ⟨(lb.getD k []).toArray⟩) := by
        rw [(unhide HI).cell (p := ⟨Gb, k, none⟩) h4]
        exact (cellOf h2 k).trans (strs_at lb k (by rw [(unhide HL).2]; exact hlt))
      have hee := unhide HE k hlt
      generalize la.getD k [] = xa at *
      generalize lb.getD k [] = xb at *
      clear h1 h2 h3 h4
      have hia := ixStrs Ga n n k hlt
      have hib := ixStrs Gb n n k hlt
      by_cases e1 : k < f
      · have d1 : decide ((k : Int) < (f : Int)) = true := decide_eq_true (by omega)
        obtain rfl := hee (.inl e1)
        go_wp2
        go_quiet (fail)
        go_wp2
        go_roundw
        case rel => exact ⟨k + 1, by omega, by go_num, belowDN (unhide HI) _⟩
        case measure => simp [intOf]; omega
      · have d1 : decide ((k : Int) < (f : Int)) = false := decide_eq_false (by omega)
        by_cases e2 : f + sl < k
        · have d2 : decide ((f : Int) + (sl : Int) < (k : Int)) = true := decide_eq_true (by omega)
          obtain rfl := hee (.inr e2)
          go_wp2
          go_quiet (fail)
          go_wp2
          go_roundw
          case rel => exact ⟨k + 1, by omega, by go_num, belowDN (unhide HI) _⟩
          case measure => simp [intOf]; omega
        · have d2 : decide ((f : Int) + (sl : Int) < (k : Int)) = false := decide_eq_false (by omega)
          go_wp2
          go_quiet (fail)
          go_wp2
          go_roundw
          case rel => exact ⟨k + 1, by omega, by go_num, belowDN (unhide HI) _⟩
          case measure => simp [intOf]; omega
    · obtain rfl : k = n := by omega
      have hki : ¬ (k : Int) < (k : Int) := by omega
      go_wp2
      go_ret
      exact ⟨rfl, unhide HI⟩
-- foundSame 23 fit 16 twin 9 awake 13 whole 4
end Go.Proofs.YtfdfbjijomepgaaDoor
