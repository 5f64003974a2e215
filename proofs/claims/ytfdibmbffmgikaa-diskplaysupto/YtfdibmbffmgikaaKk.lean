/- The disk's laws: what a step writes; a page of one byte. -/
import Derived.Test.YtfdibmbffmgikaaKj
namespace Go.Proofs.Ytfdibmbffmgikaa
open Go.RowKit Go.Lib

theorem img_set (l : List UInt8) (k : Nat) (x : UInt8) : (img l).setIfInBounds k (.int .u8 (x.toNat : Int)) = img (l.set k x) := by
  simp [img, byteCells, List.map_set]
theorem set_fill (f : Nat → UInt8) (k n : Nat) (hk : k < n) : ((List.range k).map f ++ zeros (n - k)).set k (f k) = (List.range (k + 1)).map f ++ zeros (n - (k + 1)) := by
  have e1 : n - k = (n - (k + 1)) + 1 := by omega
  rw [List.set_append_right _ _ (by simp), List.length_map, List.length_range, Nat.sub_self, e1, zeros, List.replicate_succ, List.set_cons_zero, List.range_succ, List.map_append, List.append_assoc]
  rfl
theorem madeB : madeCells #[Value.int .u8 0] 1024 = img (zeros 1024) := by
  apply Array.ext_getElem?
  intro k
  by_cases hk : k < 1024
  · rw [img_at _ k (by rw [zlen]; exact hk), zat]
    simp [madeCells, hk, Nat.mod_one]
  · rw [Array.getElem?_eq_none (by rw [size_madeCells]; omega), Array.getElem?_eq_none (by rw [img_size, zlen]; omega)]
theorem mkB (u : World) : (Instr.makeSlice 28 (.int .i64 1024) (.int .i64 1024)).run Try.prog u = .ok (.slice (some ⟨u.heap.size, 0, none⟩) 1024 1024) (u.alloc (.cells (img (zeros 1024)) 5)) := by
  rw [← madeB]; exact mkBytes 1024 (by decide) u
def full (c : UInt8) : List UInt8 := (List.range 1024).map fun _ => c
theorem full_len (c : UInt8) : (full c).length = 1024 := by simp [full]
set_option maxRecDepth 100000 in
theorem lPage (c : UInt8) (u : World) : Calls Try.prog 33 #[.int .u8 (c.toNat : Int)] u fun e u' => e = .returned (.slice (some ⟨u.heap.size, 0, none⟩) 1024 1024) ∧ u'.heap[u.heap.size]? = some (.cells (img (full c)) 5 (0, 0)) ∧ Below u.heap.size u u' ∧ u'.heap.size = u.heap.size + 1 := by
  obtain ⟨G, hG⟩ : ∃ G, G = u.heap.size := ⟨_, rfl⟩
  have hmk := mkB u
  rw [← hG] at hmk
  have HI0 : Hid ((u.alloc (.cells (img (zeros 1024)) 5)).heap[G]? = some (.cells (img ((List.range 0).map (fun _ => c) ++ zeros (1024 - 0))) 5 (0, 0)) ∧ Below G u (u.alloc (.cells (img (zeros 1024)) 5)) ∧ (u.alloc (.cells (img (zeros 1024)) 5)).heap.size = G + 1) :=
    ⟨by rw [hG]; exact heap_alloc_new _ _, (Below.refl _ _).alloc (by rw [hG]; exact Nat.le_refl _) _, by rw [hG]; simp⟩
  obtain ⟨C0, hC0⟩ : ∃ C, C = img (zeros 1024) := ⟨_, rfl⟩
  rw [← hC0] at hmk HI0
  have HC := hide hC0
  rw [← hG]
  clear hG hC0
  go_enter Try.func33, Try.ntmps33
  go_wp2
  clear hmk
  generalize u.alloc (.cells C0 5) = W0 at *
  go_loopw [4] (fun i wr => ∃ k : Nat, k ≤ 1024 ∧ i = .int .i64 k ∧ Hid (wr.heap[G]? = some (.cells (img ((List.range k).map (fun _ => c) ++ zeros (1024 - k))) 5 (0, 0)) ∧ Below G u wr ∧ wr.heap.size = G + 1)) (fun i _ => 1024 - (intOf i).toNat)
  case atStart => exact ⟨0, Nat.zero_le _, rfl, HI0⟩
  case round =>
    obtain ⟨k, hk, rfl, HI⟩ := hrel
    clear HI0
    by_cases hlt : k < 1024
    · have hki : (k : Int) < 1024 := by omega
      have hll : k < ((List.range k).map (fun _ => c) ++ zeros (1024 - k)).length := by rw [List.length_append, zlen]; simp; omega
      have hcc := cell_of_row wr G k _ _ _ (unhide HI).1
      rw [img_at _ k hll] at hcc
      have hcz : wr.frozen? ⟨G, k, none⟩ = false := by simp [World.frozen?, (unhide HI).1]
      generalize (((List.range k).map (fun _ => c) ++ zeros (1024 - k))[k]).toNat = y at hcc
      have HNX : Hid ((wr.setCell ⟨G, k, none⟩ (.int .u8 (c.toNat : Int))).heap[G]? = some (.cells (img ((List.range (k + 1)).map (fun _ => c) ++ zeros (1024 - (k + 1)))) 5 (0, 0)) ∧ Below G u (wr.setCell ⟨G, k, none⟩ (.int .u8 (c.toNat : Int))) ∧ (wr.setCell ⟨G, k, none⟩ (.int .u8 (c.toNat : Int))).heap.size = G + 1) :=
        ⟨by rw [heapCell_same (unhide HI).1, img_set, set_fill (fun _ => c) k 1024 hlt], belowCell (unhide HI).2.1 (p := ⟨G, k, none⟩) (Nat.le_refl _) _, by rw [← (unhide HI).2.2]; simp [World.setCell]⟩
      clear HI hll
      go_wp2
      go_roundw
      case rel => exact ⟨k + 1, by omega, by go_num, HNX⟩
      case measure => simp [intOf]; omega
    · have hkk : k = 1024 := by omega
      subst hkk
      go_wp2
      go_ret
      obtain ⟨h1, h2, h3⟩ := unhide HI
      refine ⟨rfl, ?_, h2, h3⟩
      rw [h1, Nat.sub_self, show zeros 0 = [] from rfl, List.append_nil]
      rfl
theorem run_index_str (S : ByteArray) (r : Nat) (hr : r < S.size) (W : World) : (Instr.index 9 (.string S) (.int .i64 (r : Int))).run Try.prog W = .ok (.int .u8 ((S.data.toList.getD r 0).toNat : Int)) W := by
  have h1 : (0 : Int) ≤ (r : Int) := by omega
  have h2 : S[(r : Int).toNat]? = some (S.data.toList.getD r 0) := by
    have h3 : r < S.data.toList.length := by rw [Array.length_toList]; exact hr
    rw [Int.toNat_natCast, List.getD_eq_getElem?_getD, List.getElem?_eq_getElem h3, Option.getD_some, getElem?_pos S r hr, Array.getElem_toList]
    rfl
  simp only [Instr.index, asIntOf, Sem.run_bind, Sem.run_pure, Result.andThen_ok, run_underlying Try.underlying9, h1, if_true, h2]
theorem belowDrew {B : Nat} {a w : World} (h : Below B a w) : Below B a w.drew := ⟨h.os, h.tape, h.output, h.size, h.block⟩
/-- what a step writes -/
def contAt (S : ByteArray) (i : Nat) : UInt8 := S.data.toList.getD (i % S.size) 0
def contL (S : ByteArray) : List UInt8 := if S.size = 0 then zeros 1024 else (List.range 1024).map (contAt S)
def cont (S : ByteArray) (odd : Bool) : List UInt8 := if odd then S.data.toList else contL S
theorem contL_len (S : ByteArray) : (contL S).length = 1024 := by
  unfold contL
  split
  · exact zlen _
  · simp
/-- a step as it is handed on -/
structure St where
  kind : Int
  n : Int
  s : ByteArray
  odd : Bool
  kao : Option Addr
  ks : List Bool
  kc : Nat
  torn : Int
  cut : Int
def St.cs (x : St) : Array Value := #[.int .i64 x.kind, .int .i64 x.n, .string x.s, .bool x.odd, .slice x.kao x.ks.length x.kc, .int .i64 x.torn, .int .i64 x.cut]
theorem ba_eq (S : ByteArray) : (⟨S.data.toList.toArray⟩ : ByteArray) = S := by cases S; rfl
set_option maxRecDepth 100000 in
set_option maxHeartbeats 1000000 in
theorem lContent (x : St) (hsz : x.s.size ≤ 9223372036854775807) (u : World) : Calls Try.prog 32 #[.agg x.cs] u fun e u' => e = .returned (.string ⟨(cont x.s x.odd).toArray⟩) ∧ Below u.heap.size u u' := by
  obtain ⟨kind, n, S, odd, kao, ks, kc, torn, cut⟩ := x
  obtain ⟨N, hN⟩ : ∃ N, N = u.heap.size := ⟨_, rfl⟩
  have HN := hide hN
  have hsi : (S.size : Int) ≤ 9223372036854775807 := by have : S.size ≤ 9223372036854775807 := hsz; omega
  clear hsz
  rw [← hN]
  clear hN
  simp only [St.cs]
  generalize ks.length = kn at *
  cases odd
  · show Calls Try.prog 32 _ _ fun e u' => e = .returned (.string ⟨(contL S).toArray⟩) ∧ _
    obtain ⟨G, hG⟩ : ∃ G, G = N + 1 := ⟨_, rfl⟩
    have HG := hide hG
    have hmk : Hid (∀ W : World, W.heap.size = G → (Instr.makeSlice 28 (.int .i64 1024) (.int .i64 1024)).run Try.prog W = .ok (.slice (some ⟨G, 0, none⟩) 1024 1024) (W.alloc (.cells (img (zeros 1024)) 5))) := fun W hW => by rw [← hW]; exact mkB W
    obtain ⟨C0, hC0⟩ : ∃ C, C = img (zeros 1024) := ⟨_, rfl⟩
    rw [← hC0] at hmk
    have HC := hide hC0
    clear hG hC0
    go_enter Try.func32, Try.ntmps32
    go_wp2_with (first | (refine wpList_box_row (by rfl) 47 (.tmp 0) (by rfl) (some 1) (by rfl) N (by exact (unhide HN).symm) #[.int .i64 kind, .int .i64 n, .string S, .bool false, .slice kao kn kc, .int .i64 torn, .int .i64 cut] (by rfl) ?_; intro W1 HX1 HB1 HS1; simp only [Act.put, List.setIfInBounds_toArray, List.set_cons_zero, List.set_cons_succ]; have hc2 : W1.cell? ⟨N, 2, none⟩ = some (.string S) := cell_of_row W1 N 2 _ _ _ (unhide HX1); have hc3 : W1.cell? ⟨N, 3, none⟩ = some (.bool false) := cell_of_row W1 N 3 _ _ _ (unhide HX1); have hmk1 := unhide hmk W1 (by rw [unhide HS1]; exact (unhide HG).symm)))
    clear hmk1 hmk hc3
    have hNG : N < W1.heap.size := by rw [unhide HS1]; omega
    have hWG : W1.heap.size = G := by rw [unhide HS1]; exact (unhide HG).symm
    have HI0 : Hid ((W1.alloc (.cells C0 5)).heap[G]? = some (.cells (img ((List.range 0).map (contAt S) ++ zeros (1024 - 0))) 5 (0, 0)) ∧ Below N u (W1.alloc (.cells C0 5)) ∧ (W1.alloc (.cells C0 5)).cell? ⟨N, 2, none⟩ = some (.string S)) :=
      ⟨by rw [← hWG, unhide HC]; exact heap_alloc_new _ _, (unhide HB1).alloc (by have := unhide HS1; omega) _, by rw [World.cell?_alloc_lt _ _ _ hNG]; exact hc2⟩
    clear hWG hNG hc2 HX1 HB1 HS1
    generalize W1.alloc (.cells C0 5) = W0 at *
    go_loopw [4] (fun i wr => ∃ k : Nat, k ≤ 1024 ∧ i = .int .i64 k ∧ (S.size = 0 → k = 0) ∧ Hid (wr.heap[G]? = some (.cells (img ((List.range k).map (contAt S) ++ zeros (1024 - k))) 5 (0, 0)) ∧ Below N u wr ∧ wr.cell? ⟨N, 2, none⟩ = some (.string S))) (fun i _ => 1024 - (intOf i).toNat)
    case atStart => exact ⟨0, Nat.zero_le _, rfl, fun _ => rfl, HI0⟩
    case round =>
      obtain ⟨k, hk, rfl, hk0, HI⟩ := hrel
      clear HI0 HC
      have hc2 := (unhide HI).2.2
      by_cases hlt : k < 1024 ∧ 0 < S.size
      · obtain ⟨hlt, hpos⟩ := hlt
        have hki : (k : Int) < 1024 := by omega
        have hpi : (0 : Int) < (S.size : Int) := by omega
        have hnz : ¬ (S.size : Int) = 0 := by omega
        have hnz2 : ¬ S.size = 0 := by omega
        obtain ⟨r, hr⟩ : ∃ r, r = k % S.size := ⟨_, rfl⟩
        have hrl : r < S.size := by rw [hr]; exact Nat.mod_lt _ hpos
        have hrt : (k : Int).tmod (S.size : Int) = (r : Int) := by rw [hr]; rfl
        have hri : (r : Int) < (S.size : Int) := by omega
        have hwr : IntKind.i64.wrap (r : Int) = (r : Int) := by rw [IntKind.wrap_i64]; omega
        obtain ⟨x, hx⟩ : ∃ x, x = contAt S k := ⟨_, rfl⟩
        have hix : ∀ W : World, (Instr.index 9 (.string S) (.int .i64 (r : Int))).run Try.prog W = .ok (.int .u8 (x.toNat : Int)) W := by
          intro W
          rw [hx, contAt, ← hr]
          exact run_index_str S r hrl W
        have hll : k < ((List.range k).map (contAt S) ++ zeros (1024 - k)).length := by rw [List.length_append, zlen]; simp; omega
        have hcc := cell_of_row wr G k _ _ _ (unhide HI).1
        rw [img_at _ k hll] at hcc
        have hcz : wr.frozen? ⟨G, k, none⟩ = false := by simp [World.frozen?, (unhide HI).1]
        generalize (((List.range k).map (contAt S) ++ zeros (1024 - k))[k]).toNat = y at hcc
        have hNG : (⟨G, k, none⟩ : Addr) ≠ ⟨N, 2, none⟩ := fun e => by have e1 : G = N := congrArg Addr.block e; have := unhide HG; omega
        have HNX : Hid ((wr.setCell ⟨G, k, none⟩ (.int .u8 (x.toNat : Int))).heap[G]? = some (.cells (img ((List.range (k + 1)).map (contAt S) ++ zeros (1024 - (k + 1)))) 5 (0, 0)) ∧ Below N u (wr.setCell ⟨G, k, none⟩ (.int .u8 (x.toNat : Int))) ∧ (wr.setCell ⟨G, k, none⟩ (.int .u8 (x.toNat : Int))).cell? ⟨N, 2, none⟩ = some (.string S)) :=
          ⟨by rw [heapCell_same (unhide HI).1, hx, img_set, set_fill (contAt S) k 1024 hlt], belowCell (unhide HI).2.1 (p := ⟨G, k, none⟩) (by have := unhide HG; show N ≤ G; omega) _, by rw [World.cell?_setCell_other _ _ _ _ hNG]; exact hc2⟩
        have HR := hide hr
        have HX := hide hx
        clear HI hll hr hx hNG hk0
        go_wp2
        refine wp_region_last (fun u => u.cell? ⟨N, 2, none⟩ = some (.string S) ∧ u.cell? ⟨G, k, none⟩ = some (.int .u8 (y : Int)) ∧ u.frozen? ⟨G, k, none⟩ = false) 11 (by kernel_rfl) ⟨hc2, hcc, hcz⟩ fun hS => ?_
        refine wpAnyL_take 0 20 (.slice (some ⟨G, 0, none⟩) 1024 1024) [] rfl rfl (by kernel_rfl) (by kernel_rfl) (by kernel_rfl) (by kernel_rfl) (by kernel_rfl) (fun _ _ _ h => h) (by rfl) (fun u _ => by go_simp) hS ?_
        simp only [Act.put, List.setIfInBounds_toArray, List.set_cons_zero, List.set_cons_succ]
        refine wpAnyL_take 1 21 (.int .i64 (k : Int)) [] rfl rfl (by kernel_rfl) (by kernel_rfl) (by kernel_rfl) (by kernel_rfl) (by kernel_rfl) (fun _ _ _ h => h) (by rfl) (fun u _ => by go_simp) hS ?_
        simp only [Act.put, List.setIfInBounds_toArray, List.set_cons_zero, List.set_cons_succ]
        refine wpAnyL_take 2 22 (.pointer (some ⟨N, 2, none⟩)) [] rfl rfl (by kernel_rfl) (by kernel_rfl) (by kernel_rfl) (by kernel_rfl) (by kernel_rfl) (fun _ _ _ h => h) (by rfl) (fun u _ => by go_simp) hS ?_
        simp only [Act.put, List.setIfInBounds_toArray, List.set_cons_zero, List.set_cons_succ]
        refine wpAnyL_take 3 23 (.string S) [] rfl rfl (by kernel_rfl) (by kernel_rfl) (by kernel_rfl) (by kernel_rfl) (by kernel_rfl) (fun _ _ _ h => h) (by rfl) (fun u hu => by obtain ⟨s1, s2, s3⟩ := hu; go_simp) hS ?_
        simp only [Act.put, List.setIfInBounds_toArray, List.set_cons_zero, List.set_cons_succ]
        refine wpAnyL_take 4 24 (.int .i64 (k : Int)) [] rfl rfl (by kernel_rfl) (by kernel_rfl) (by kernel_rfl) (by kernel_rfl) (by kernel_rfl) (fun _ _ _ h => h) (by rfl) (fun u _ => by go_simp) hS ?_
        simp only [Act.put, List.setIfInBounds_toArray, List.set_cons_zero, List.set_cons_succ]
        refine wpAnyL_take 5 25 (.pointer (some ⟨N, 2, none⟩)) [] rfl rfl (by kernel_rfl) (by kernel_rfl) (by kernel_rfl) (by kernel_rfl) (by kernel_rfl) (fun _ _ _ h => h) (by rfl) (fun u _ => by go_simp) hS ?_
        simp only [Act.put, List.setIfInBounds_toArray, List.set_cons_zero, List.set_cons_succ]
        refine wpAnyL_take 6 26 (.string S) [] rfl rfl (by kernel_rfl) (by kernel_rfl) (by kernel_rfl) (by kernel_rfl) (by kernel_rfl) (fun _ _ _ h => h) (by rfl) (fun u hu => by obtain ⟨s1, s2, s3⟩ := hu; go_simp) hS ?_
        simp only [Act.put, List.setIfInBounds_toArray, List.set_cons_zero, List.set_cons_succ]
        refine wpAnyL_take 7 27 (.int .i64 (S.size : Int)) [] rfl rfl (by kernel_rfl) (by kernel_rfl) (by kernel_rfl) (by kernel_rfl) (by kernel_rfl) (fun _ _ _ h => h) (by rfl) (fun u _ => by go_simp) hS ?_
        simp only [Act.put, List.setIfInBounds_toArray, List.set_cons_zero, List.set_cons_succ]
        refine wpAnyL_take 8 28 (.int .i64 (r : Int)) [] rfl rfl (by kernel_rfl) (by kernel_rfl) (by kernel_rfl) (by kernel_rfl) (by kernel_rfl) (fun _ _ _ h => h) (by rfl) (fun u _ => by go_simp) hS ?_
        simp only [Act.put, List.setIfInBounds_toArray, List.set_cons_zero, List.set_cons_succ]
        refine wpAnyL_take 9 29 (.int .u8 (x.toNat : Int)) [] rfl rfl (by kernel_rfl) (by kernel_rfl) (by kernel_rfl) (by kernel_rfl) (by kernel_rfl) (fun _ _ _ h => h) (by rfl) (fun u _ => by go_simp) hS ?_
        simp only [Act.put, List.setIfInBounds_toArray, List.set_cons_zero, List.set_cons_succ]
        refine wpAnyL_take 10 30 (.pointer (some ⟨G, k, none⟩)) [] rfl rfl (by kernel_rfl) (by kernel_rfl) (by kernel_rfl) (by kernel_rfl) (by kernel_rfl) (fun _ _ _ h => h) (by rfl) (fun u _ => by go_simp) hS ?_
        simp only [Act.put, List.setIfInBounds_toArray, List.set_cons_zero, List.set_cons_succ]
        refine wpAnyL_one (i := 11) (by kernel_rfl) rfl (by rfl) fun K hK => ?_
        obtain ⟨s1, s2, s3⟩ := hS
        go_simp
        refine hK _ _ (fun h => absurd rfl h) ?_
        clear hK K
        refine wpAnyL_done (by kernel_rfl) ?_ _
        go_wp2
        go_roundw
        case rel => exact ⟨k + 1, by omega, by go_num, fun h => by omega, (unhide HNX).1, belowDrew (unhide HNX).2.1, (unhide HNX).2.2⟩
        case measure => simp [intOf]; omega
      · have hend : (S.size = 0 ∧ k = 0) ∨ (0 < S.size ∧ k = 1024) := by
          rcases Nat.eq_zero_or_pos S.size with h | h
          · exact .inl ⟨h, hk0 h⟩
          · exact .inr ⟨h, by omega⟩
        have hfin : (List.range k).map (contAt S) ++ zeros (1024 - k) = contL S := by
          unfold contL
          rcases hend with ⟨h1, rfl⟩ | ⟨h1, rfl⟩
          · rw [if_pos h1]; rfl
          · rw [if_neg (by omega), Nat.sub_self, show zeros 0 = [] from rfl, List.append_nil]
        have hrow := (unhide HI).1
        rw [hfin] at hrow
        have hcv := conv_range (u := wr) (g := G) (o := 0) (bs := contL S) (fun j v hv => by rw [Nat.zero_add, cell_of_row wr G j _ _ _ hrow]; simpa [img] using hv) 1024 1024 (contL_len S).symm
        have hki : ¬ ((k : Int) < 1024 ∧ (0 : Int) < (S.size : Int)) := by omega
        clear hfin hrow hk0
        obtain ⟨R, hR⟩ : ∃ R : ByteArray, R = ⟨(contL S).toArray⟩ := ⟨_, rfl⟩
        rw [← hR] at hcv
        have HRR := hide hR
        clear hR
        rcases hend with ⟨h1, rfl⟩ | ⟨h1, rfl⟩
        · have hz : (S.size : Int) = 0 := by omega
          go_wp2
          go_ret
          exact ⟨by rw [← unhide HRR]; rfl, (unhide HI).2.1⟩
        · go_wp2
          go_ret
          exact ⟨by rw [← unhide HRR]; rfl, (unhide HI).2.1⟩
  · show Calls Try.prog 32 _ _ fun e u' => e = .returned (.string ⟨S.data.toList.toArray⟩) ∧ _
    rw [ba_eq]
    go_enter Try.func32, Try.ntmps32
    go_wp2_with (first | (refine wpList_box_row (by rfl) 47 (.tmp 0) (by rfl) (some 1) (by rfl) N (by exact (unhide HN).symm) #[.int .i64 kind, .int .i64 n, .string S, .bool true, .slice kao kn kc, .int .i64 torn, .int .i64 cut] (by rfl) ?_; intro W1 HX1 HB1 HS1; simp only [Act.put, List.setIfInBounds_toArray, List.set_cons_zero, List.set_cons_succ]; have hc2 : W1.cell? ⟨N, 2, none⟩ = some (.string S) := cell_of_row W1 N 2 _ _ _ (unhide HX1); have hc3 : W1.cell? ⟨N, 3, none⟩ = some (.bool true) := cell_of_row W1 N 3 _ _ _ (unhide HX1)))
    go_ret
    exact ⟨rfl, unhide HB1⟩
end Go.Proofs.Ytfdibmbffmgikaa
