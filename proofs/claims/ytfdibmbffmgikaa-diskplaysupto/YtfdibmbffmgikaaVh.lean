/- The disk's laws, beside the document's disk: a step. -/
import Derived.Test.YtfdibmbffmgikaaVg
import Derived.Test.YtfdibmbffmgikaaVd
import Derived.Test.YtfdibmbffmgikaaKr
namespace Go.Proofs.Ytfdibmbffmgikaa
open Go.RowKit Go.Lib

def Dk.stepped (d : Dk) (x : St) : Dk := if x.kind = 0 then (d.write x.n (cont x.s x.odd)).2 else if x.kind = 1 then d else if x.kind = 2 then d.sync.2 else if x.kind = 3 then d.fused x.n else if x.kind = 4 then d.crash (share x.ks x.torn x.cut) else d
def SP (B : Nat) (w w' : World) (D M : Nat) (F G : List Nat) (d' : Dk) : Prop := ∃ F' G', Two B w' D M F' G' d' d' ∧ UpS w w' (F ++ G) ∧ (∀ k ∈ F', k ∈ F ∨ w.heap.size ≤ k) ∧ (∀ k ∈ G', k ∈ G ∨ w.heap.size ≤ k)
section
variable {B : Nat} {w w' W1 : World} {D M : Nat} {F G : List Nat} {d d' : Dk}
theorem SP.from' (hb : Below w.heap.size w W1) (h : SP B W1 w' D M F G d') : SP B w w' D M F G d' := by
  obtain ⟨F', G', h1, h2, h3, h4⟩ := h
  exact ⟨F', G', h1, (UpS.ofBelow _ hb).trans h2 (fun k hk => .inl hk), fun k hk => (h3 k hk).imp id (fun h => Nat.le_trans hb.size h), fun k hk => (h4 k hk).imp id (fun h => Nat.le_trans hb.size h)⟩
theorem SP.same (h : Two B w D M F G d d) (hu : UpS w w' []) : SP B w w' D M F G d :=
  ⟨F, G, h.upd hu (fun _ _ => by simp), hu.mono (fun k hk => by cases hk), fun _ hk => .inl hk, fun _ hk => .inl hk⟩
theorem rLightD (h : Rk B w M G d) (x : Int) (hx : x ≤ 9223372036854775807) : Calls Try.prog 45 #[.pointer (some ⟨M, 0, none⟩), .int .i64 x] w fun e u' => e = .returned (.tuple #[]) ∧ Rk B u' M G (d.fused x) ∧ UpS w u' G := by
  obtain ⟨v1, v2, rfl, h⟩ := h
  exact (rLight h x hx).mono fun e u' ⟨he, hd, hu⟩ => ⟨he, ⟨v1, v2, rfl, hd⟩, hu.mono fun y hy => .inl (by simp_all)⟩
theorem Rk.off_at (h : Rk B w M G d) : w.cell? ⟨M, 2, none⟩ = some (.bool d.off) := by obtain ⟨v1, v2, _, h⟩ := h; exact h.c2
set_option maxRecDepth 100000 in
set_option maxHeartbeats 4000000 in
theorem lStep0 (h : Two B w D M F G d d) (hB : B ≤ w.heap.size) (hm : d.pend.length ≤ 2000000) (x : St) (hx : x.Ok) (hxs : x.s.size ≤ 1048576) (hk : x.kind = 0) : Calls Try.prog 22 #[.pointer (some ⟨D, 0, none⟩), .pointer (some ⟨M, 0, none⟩), .agg x.cs] w fun e w' => e = .returned (.bool true) ∧ SP B w w' D M F G (d.write x.n (cont x.s x.odd)).2 := by
  obtain ⟨N, hN⟩ : ∃ N, N = w.heap.size := ⟨_, rfl⟩
  have HN := hide hN
  have HH := hide h
  have HMB : Hid (d.pend.length ≤ 2000000 ∧ B ≤ w.heap.size ∧ x.Ok) := ⟨hm, hB, hx⟩
  obtain ⟨d', hd'⟩ : ∃ z, z = (d.write x.n (cont x.s x.odd)).2 := ⟨_, rfl⟩
  have HW : Hid (∀ u, Two B u D M F G d d → B ≤ u.heap.size → Calls Try.prog 42 #[.pointer (some ⟨D, 0, none⟩), .pointer (some ⟨M, 0, none⟩), .agg x.cs] u fun e w' => e = .returned (.bool true) ∧ SP B u w' D M F G d') := fun u h1 h2 => by rw [hd']; exact lWritten h1 h2 hm x hx hxs
  rw [← hd']
  obtain ⟨C, hC⟩ : ∃ C, C = x.cs := ⟨_, rfl⟩
  have HC1 : Hid (C.size = 7 ∧ C.all (·.oneCell') = true) := by rw [hC]; exact ⟨x.cs_size, x.cs_one⟩
  have HC2 : Hid (C = #[.int .i64 x.kind, .int .i64 x.n, .string x.s, .bool x.odd, .slice x.kao x.ks.length x.kc, .int .i64 x.torn, .int .i64 x.cut]) := hC
  rw [hk] at HC2
  obtain ⟨xn, hxn⟩ : ∃ z, z = x.n := ⟨_, rfl⟩
  rw [← hxn] at HC2
  have HXN := hide hxn
  rw [← hC]
  rw [← hC] at HW
  clear hd' hxs
  clear hC h hB hm hx hN hxn hk
  go_enter Try.func22, Try.ntmps22
  go_wp2_with (first | (refine wpList_box_row (by rfl) 47 (.tmp 2) (by rfl) (some 5) (by rfl) N (by exact (unhide HN).symm) C (by rfl) ?_; intro W1 HX1 HB1 HS1; simp only [Act.put, List.setIfInBounds_toArray, List.set_cons_zero, List.set_cons_succ]; have hc0 : W1.cell? ⟨N, 0, none⟩ = some (.int .i64 0) := (by rw [cell_of_row W1 N 0 _ _ _ (unhide HX1), unhide HC2]; rfl); have hc1 : W1.cell? ⟨N, 1, none⟩ = some (.int .i64 xn) := (by rw [cell_of_row W1 N 1 _ _ _ (unhide HX1), unhide HC2]; rfl)) | (refine wpList_load_row (by rfl) 47 (.tmp 5) (by rfl) N (by rfl) 47 C (0, 0) _ (unhide HX1) stepUnd rfl (by rw [(unhide HC1).1]; exact stepInfo) ?_; simp only [Act.put, List.setIfInBounds_toArray, List.set_cons_zero, List.set_cons_succ]))
  have HBW : Hid (Below w.heap.size w W1) := by rw [← unhide HN]; exact unhide HB1
  have HT1 := hide ((unhide HH).below (unhide HBW))
  have HNW : Hid (N < W1.heap.size ∧ N ∉ F ∧ N ∉ G) := ⟨World.block_lt_of_cell? W1 _ hc0, fun hk => by have := ((unhide HH).dk.ge _ hk).2; have := unhide HN; omega, fun hk => by have := ((unhide HH).rk.ge _ hk).2; have := unhide HN; omega⟩
  refine (unhide HW W1 (unhide HT1) (by have := (unhide HMB).2.1; have := (unhide HBW).size; omega)).mono ?_
  rintro e w2 ⟨rfl, hsp⟩
  have HSP := hide hsp
  clear hsp hc0 hc1
  go_wp2
  go_ret
  exact ⟨rfl, (unhide HSP).from' (unhide HBW)⟩
set_option maxRecDepth 100000 in
set_option maxHeartbeats 4000000 in
theorem lStep1 (h : Two B w D M F G d d) (hB : B ≤ w.heap.size) (hm : d.pend.length ≤ 2000000) (x : St) (hx : x.Ok) (hk : x.kind = 1) : Calls Try.prog 22 #[.pointer (some ⟨D, 0, none⟩), .pointer (some ⟨M, 0, none⟩), .agg x.cs] w fun e w' => e = .returned (.bool true) ∧ SP B w w' D M F G d := by
  obtain ⟨N, hN⟩ : ∃ N, N = w.heap.size := ⟨_, rfl⟩
  have HN := hide hN
  have HH := hide h
  have HMB : Hid (d.pend.length ≤ 2000000 ∧ B ≤ w.heap.size ∧ x.Ok) := ⟨hm, hB, hx⟩
  obtain ⟨C, hC⟩ : ∃ C, C = x.cs := ⟨_, rfl⟩
  have HC1 : Hid (C.size = 7 ∧ C.all (·.oneCell') = true) := by rw [hC]; exact ⟨x.cs_size, x.cs_one⟩
  have HC2 : Hid (C = #[.int .i64 x.kind, .int .i64 x.n, .string x.s, .bool x.odd, .slice x.kao x.ks.length x.kc, .int .i64 x.torn, .int .i64 x.cut]) := hC
  rw [hk] at HC2
  obtain ⟨xn, hxn⟩ : ∃ z, z = x.n := ⟨_, rfl⟩
  rw [← hxn] at HC2
  have HXN := hide hxn
  rw [← hC]
  clear hC h hB hm hx hN hxn hk
  go_enter Try.func22, Try.ntmps22
  go_wp2_with (first | (refine wpList_box_row (by rfl) 47 (.tmp 2) (by rfl) (some 5) (by rfl) N (by exact (unhide HN).symm) C (by rfl) ?_; intro W1 HX1 HB1 HS1; simp only [Act.put, List.setIfInBounds_toArray, List.set_cons_zero, List.set_cons_succ]; have hc0 : W1.cell? ⟨N, 0, none⟩ = some (.int .i64 1) := (by rw [cell_of_row W1 N 0 _ _ _ (unhide HX1), unhide HC2]; rfl); have hc1 : W1.cell? ⟨N, 1, none⟩ = some (.int .i64 xn) := (by rw [cell_of_row W1 N 1 _ _ _ (unhide HX1), unhide HC2]; rfl)) | (refine wpList_load_row (by rfl) 47 (.tmp 5) (by rfl) N (by rfl) 47 C (0, 0) _ (unhide HX1) stepUnd rfl (by rw [(unhide HC1).1]; exact stepInfo) ?_; simp only [Act.put, List.setIfInBounds_toArray, List.set_cons_zero, List.set_cons_succ]))
  have HBW : Hid (Below w.heap.size w W1) := by rw [← unhide HN]; exact unhide HB1
  have HT1 := hide ((unhide HH).below (unhide HBW))
  have HNW : Hid (N < W1.heap.size ∧ N ∉ F ∧ N ∉ G) := ⟨World.block_lt_of_cell? W1 _ hc0, fun hk => by have := ((unhide HH).dk.ge _ hk).2; have := unhide HN; omega, fun hk => by have := ((unhide HH).rk.ge _ hk).2; have := unhide HN; omega⟩
  refine (lRead (unhide HT1) (by have := (unhide HMB).1; omega) xn).mono ?_
  rintro e w2 ⟨rfl, hu⟩
  have HU := hide hu
  clear hu hc0 hc1
  go_wp2
  go_ret
  exact ⟨rfl, (SP.same (unhide HT1) (unhide HU)).from' (unhide HBW)⟩
set_option maxRecDepth 100000 in
set_option maxHeartbeats 4000000 in
theorem lStepD (h : Two B w D M F G d d) (hB : B ≤ w.heap.size) (hm : d.pend.length ≤ 2000000) (x : St) (hx : x.Ok) (h0 : x.kind ≠ 0) (h1 : x.kind ≠ 1) (h2 : x.kind ≠ 2) (h3 : x.kind ≠ 3) (h4 : x.kind ≠ 4) : Calls Try.prog 22 #[.pointer (some ⟨D, 0, none⟩), .pointer (some ⟨M, 0, none⟩), .agg x.cs] w fun e w' => e = .returned (.bool true) ∧ SP B w w' D M F G d := by
  obtain ⟨N, hN⟩ : ∃ N, N = w.heap.size := ⟨_, rfl⟩
  have HN := hide hN
  have HH := hide h
  have HMB : Hid (d.pend.length ≤ 2000000 ∧ B ≤ w.heap.size ∧ x.Ok) := ⟨hm, hB, hx⟩
  obtain ⟨C, hC⟩ : ∃ C, C = x.cs := ⟨_, rfl⟩
  have HC1 : Hid (C.size = 7 ∧ C.all (·.oneCell') = true) := by rw [hC]; exact ⟨x.cs_size, x.cs_one⟩
  have HC2 : Hid (C = #[.int .i64 x.kind, .int .i64 x.n, .string x.s, .bool x.odd, .slice x.kao x.ks.length x.kc, .int .i64 x.torn, .int .i64 x.cut]) := hC
  obtain ⟨kind, hkind⟩ : ∃ z, z = x.kind := ⟨_, rfl⟩
  rw [← hkind] at HC2 h0 h1 h2 h3 h4
  obtain ⟨xn, hxn⟩ : ∃ z, z = x.n := ⟨_, rfl⟩
  rw [← hxn] at HC2
  have HXN := hide hxn
  rw [← hC]
  clear hC h hB hm hx hN hxn hkind
  go_enter Try.func22, Try.ntmps22
  go_wp2_with (first | (refine wpList_box_row (by rfl) 47 (.tmp 2) (by rfl) (some 5) (by rfl) N (by exact (unhide HN).symm) C (by rfl) ?_; intro W1 HX1 HB1 HS1; simp only [Act.put, List.setIfInBounds_toArray, List.set_cons_zero, List.set_cons_succ]; have hc0 : W1.cell? ⟨N, 0, none⟩ = some (.int .i64 kind) := (by rw [cell_of_row W1 N 0 _ _ _ (unhide HX1), unhide HC2]; rfl); have hc1 : W1.cell? ⟨N, 1, none⟩ = some (.int .i64 xn) := (by rw [cell_of_row W1 N 1 _ _ _ (unhide HX1), unhide HC2]; rfl)) | (refine wpList_load_row (by rfl) 47 (.tmp 5) (by rfl) N (by rfl) 47 C (0, 0) _ (unhide HX1) stepUnd rfl (by rw [(unhide HC1).1]; exact stepInfo) ?_; simp only [Act.put, List.setIfInBounds_toArray, List.set_cons_zero, List.set_cons_succ]))
  have HBW : Hid (Below w.heap.size w W1) := by rw [← unhide HN]; exact unhide HB1
  have HT1 := hide ((unhide HH).below (unhide HBW))
  have HNW : Hid (N < W1.heap.size ∧ N ∉ F ∧ N ∉ G) := ⟨World.block_lt_of_cell? W1 _ hc0, fun hk => by have := ((unhide HH).dk.ge _ hk).2; have := unhide HN; omega, fun hk => by have := ((unhide HH).rk.ge _ hk).2; have := unhide HN; omega⟩
  refine (lAsked (unhide HT1)).mono ?_
  rintro e w2 ⟨rfl, hu⟩
  have HU := hide hu
  clear hu hc0 hc1
  go_wp2
  go_ret
  exact ⟨rfl, (SP.same (unhide HT1) (unhide HU)).from' (unhide HBW)⟩
set_option maxRecDepth 100000 in
set_option maxHeartbeats 4000000 in
theorem lStep2 (h : Two B w D M F G d d) (hB : B ≤ w.heap.size) (hm : d.pend.length ≤ 2000000) (x : St) (hx : x.Ok) (hk : x.kind = 2) : Calls Try.prog 22 #[.pointer (some ⟨D, 0, none⟩), .pointer (some ⟨M, 0, none⟩), .agg x.cs] w fun e w' => e = .returned (.bool true) ∧ SP B w w' D M F G d.sync.2 := by
  obtain ⟨N, hN⟩ : ∃ N, N = w.heap.size := ⟨_, rfl⟩
  have HN := hide hN
  have HH := hide h
  have HMB : Hid (d.pend.length ≤ 2000000 ∧ B ≤ w.heap.size ∧ x.Ok) := ⟨hm, hB, hx⟩
  have hsy : d.sync = (d.sync.1, d.sync.2) := rfl
  obtain ⟨ec, hec⟩ : ∃ z, z = d.sync.1 := ⟨_, rfl⟩
  obtain ⟨d', hd'⟩ : ∃ z, z = d.sync.2 := ⟨_, rfl⟩
  rw [← hec, ← hd'] at hsy
  rw [← hd']
  have HSY := hide hsy
  have HRS : Hid (∀ u G, Rk B u M G d → Calls Try.prog 44 #[.pointer (some ⟨M, 0, none⟩)] u fun e u' => e = .returned (.int .i64 ec) ∧ ∃ F', Rk B u' M F' d' ∧ UpS u u' G ∧ ∀ k ∈ F', k ∈ G) := fun u G h0 => by rw [hec, hd']; exact rSync h0 (by omega)
  obtain ⟨C, hC⟩ : ∃ C, C = x.cs := ⟨_, rfl⟩
  have HC1 : Hid (C.size = 7 ∧ C.all (·.oneCell') = true) := by rw [hC]; exact ⟨x.cs_size, x.cs_one⟩
  have HC2 : Hid (C = #[.int .i64 x.kind, .int .i64 x.n, .string x.s, .bool x.odd, .slice x.kao x.ks.length x.kc, .int .i64 x.torn, .int .i64 x.cut]) := hC
  rw [hk] at HC2
  obtain ⟨xn, hxn⟩ : ∃ z, z = x.n := ⟨_, rfl⟩
  rw [← hxn] at HC2
  have HXN := hide hxn
  rw [← hC]
  clear hsy hec hd'
  clear hC h hB hm hx hN hxn hk
  go_enter Try.func22, Try.ntmps22
  go_wp2_with (first | (refine wpList_box_row (by rfl) 47 (.tmp 2) (by rfl) (some 5) (by rfl) N (by exact (unhide HN).symm) C (by rfl) ?_; intro W1 HX1 HB1 HS1; simp only [Act.put, List.setIfInBounds_toArray, List.set_cons_zero, List.set_cons_succ]; have hc0 : W1.cell? ⟨N, 0, none⟩ = some (.int .i64 2) := (by rw [cell_of_row W1 N 0 _ _ _ (unhide HX1), unhide HC2]; rfl); have hc1 : W1.cell? ⟨N, 1, none⟩ = some (.int .i64 xn) := (by rw [cell_of_row W1 N 1 _ _ _ (unhide HX1), unhide HC2]; rfl)) | (refine wpList_load_row (by rfl) 47 (.tmp 5) (by rfl) N (by rfl) 47 C (0, 0) _ (unhide HX1) stepUnd rfl (by rw [(unhide HC1).1]; exact stepInfo) ?_; simp only [Act.put, List.setIfInBounds_toArray, List.set_cons_zero, List.set_cons_succ]))
  have HBW : Hid (Below w.heap.size w W1) := by rw [← unhide HN]; exact unhide HB1
  have HT1 := hide ((unhide HH).below (unhide HBW))
  have HNW : Hid (N < W1.heap.size ∧ N ∉ F ∧ N ∉ G) := ⟨World.block_lt_of_cell? W1 _ hc0, fun hk => by have := ((unhide HH).dk.ge _ hk).2; have := unhide HN; omega, fun hk => by have := ((unhide HH).rk.ge _ hk).2; have := unhide HN; omega⟩
  refine (unhide HRS W1 G (unhide HT1).rk).mono ?_
  rintro e w2 ⟨rfl, G2, hd2, hu2, hf2⟩
  have HT2 := hide ((unhide HT1).onR hd2 hu2 (fun k hk => .inl (hf2 k hk)))
  have HU2 : Hid (UpS W1 w2 (F ++ G)) := hu2.mono (fun k hk => .inl (by simp [hk]))
  have HG2 := hide hf2
  clear hd2 hu2 hf2 hc0 hc1
  go_wp2_with fail
  refine (kSyncN (unhide HT2).dk (by have := (unhide HMB).1; omega) _ (unhide HSY)).mono ?_
  rintro e w3 ⟨rfl, F3, hd3, hu3, hf3⟩
  have HT3 := hide ((unhide HT2).onD hd3 hu3 (fun k hk => .inl (hf3 k hk)))
  have HU3 : Hid (UpS W1 w3 (F ++ G)) := (unhide HU2).trans hu3 (fun k hk => .inl (by simp [hk]))
  have HF3 := hide hf3
  clear hd3 hu3 hf3
  go_wp2
  go_ret
  exact ⟨rfl, SP.from' (unhide HBW) ⟨F3, G2, unhide HT3, unhide HU3, fun k hk => .inl (unhide HF3 k hk), fun k hk => .inl (unhide HG2 k hk)⟩⟩
set_option maxRecDepth 100000 in
set_option maxHeartbeats 4000000 in
theorem lStep3 (h : Two B w D M F G d d) (hB : B ≤ w.heap.size) (hm : d.pend.length ≤ 2000000) (x : St) (hx : x.Ok) (hk : x.kind = 3) : Calls Try.prog 22 #[.pointer (some ⟨D, 0, none⟩), .pointer (some ⟨M, 0, none⟩), .agg x.cs] w fun e w' => e = .returned (.bool true) ∧ SP B w w' D M F G (d.fused x.n) := by
  obtain ⟨N, hN⟩ : ∃ N, N = w.heap.size := ⟨_, rfl⟩
  have HN := hide hN
  have HH := hide h
  have HMB : Hid (d.pend.length ≤ 2000000 ∧ B ≤ w.heap.size ∧ x.Ok) := ⟨hm, hB, hx⟩
  obtain ⟨C, hC⟩ : ∃ C, C = x.cs := ⟨_, rfl⟩
  have HC1 : Hid (C.size = 7 ∧ C.all (·.oneCell') = true) := by rw [hC]; exact ⟨x.cs_size, x.cs_one⟩
  have HC2 : Hid (C = #[.int .i64 x.kind, .int .i64 x.n, .string x.s, .bool x.odd, .slice x.kao x.ks.length x.kc, .int .i64 x.torn, .int .i64 x.cut]) := hC
  rw [hk] at HC2
  obtain ⟨xn, hxn⟩ : ∃ z, z = x.n := ⟨_, rfl⟩
  rw [← hxn] at HC2
  have HXN := hide hxn
  rw [← hC]
  rw [← hxn]
  clear hC h hB hm hx hN hxn hk
  go_enter Try.func22, Try.ntmps22
  go_wp2_with (first | (refine wpList_box_row (by rfl) 47 (.tmp 2) (by rfl) (some 5) (by rfl) N (by exact (unhide HN).symm) C (by rfl) ?_; intro W1 HX1 HB1 HS1; simp only [Act.put, List.setIfInBounds_toArray, List.set_cons_zero, List.set_cons_succ]; have hc0 : W1.cell? ⟨N, 0, none⟩ = some (.int .i64 3) := (by rw [cell_of_row W1 N 0 _ _ _ (unhide HX1), unhide HC2]; rfl); have hc1 : W1.cell? ⟨N, 1, none⟩ = some (.int .i64 xn) := (by rw [cell_of_row W1 N 1 _ _ _ (unhide HX1), unhide HC2]; rfl)) | (refine wpList_load_row (by rfl) 47 (.tmp 5) (by rfl) N (by rfl) 47 C (0, 0) _ (unhide HX1) stepUnd rfl (by rw [(unhide HC1).1]; exact stepInfo) ?_; simp only [Act.put, List.setIfInBounds_toArray, List.set_cons_zero, List.set_cons_succ]))
  have HBW : Hid (Below w.heap.size w W1) := by rw [← unhide HN]; exact unhide HB1
  have HT1 := hide ((unhide HH).below (unhide HBW))
  have HNW : Hid (N < W1.heap.size ∧ N ∉ F ∧ N ∉ G) := ⟨World.block_lt_of_cell? W1 _ hc0, fun hk => by have := ((unhide HH).dk.ge _ hk).2; have := unhide HN; omega, fun hk => by have := ((unhide HH).rk.ge _ hk).2; have := unhide HN; omega⟩
  have HNB : Hid (xn ≤ 9223372036854775807) := by rw [unhide HXN]; exact (unhide HMB).2.2.n.2
  refine (kFuseD (unhide HT1).dk xn (unhide HNB)).mono ?_
  rintro e w2 ⟨rfl, hd2, hu2⟩
  have HT2 := hide ((unhide HT1).onD hd2 hu2 (fun k hk => .inl hk))
  have HU2 : Hid (UpS W1 w2 (F ++ G)) := hu2.mono (fun k hk => .inl (by simp [hk]))
  have hc2 : w2.cell? ⟨N, 1, none⟩ = some (.int .i64 xn) := (hu2.cell (p := ⟨N, 1, none⟩) (unhide HNW).1 (unhide HNW).2.1).trans hc1
  clear hd2 hu2 hc0 hc1
  go_wp2_with fail
  refine (rLightD (unhide HT2).rk xn (unhide HNB)).mono ?_
  rintro e w3 ⟨rfl, hd3, hu3⟩
  have HT3 := hide ((unhide HT2).onR hd3 hu3 (fun k hk => .inl hk))
  have HU3 : Hid (UpS W1 w3 (F ++ G)) := (unhide HU2).trans hu3 (fun k hk => .inl (by simp [hk]))
  have hmo := (unhide HT3).rk.off_at
  have HLT : Hid (∀ n, Calls Try.prog 17 #[.pointer (some ⟨D, 0, none⟩)] (w3.drewN n) fun e u' => e = .returned (.bool (!(d.fused xn).off)) ∧ u' = w3.drewN n) := fun n => kLitD ((unhide HT3).dk.below (below_drewN w3 n))
  clear hd3 hu3 hc2 HT2
  cases hoff : (d.fused xn).off <;> rw [hoff] at HLT hmo
  all_goals
    clear hoff
    go_wp2_with fail
    go_quiet (exact Calls.quiet_of_same (unhide HLT _))
    go_wp2
    go_ret
    exact ⟨rfl, SP.from' (unhide HBW) ⟨F, G, (unhide HT3).below (below_drewN _ _), (unhide HU3).drewN _, fun k hk => .inl hk, fun k hk => .inl hk⟩⟩
end
end Go.Proofs.Ytfdibmbffmgikaa
