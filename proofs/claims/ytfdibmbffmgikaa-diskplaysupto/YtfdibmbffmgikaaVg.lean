/- The disk's laws, beside the document's disk: a write. -/
import Derived.Test.YtfdibmbffmgikaaVf
namespace Go.Proofs.Ytfdibmbffmgikaa
open Go.RowKit Go.Lib

theorem mkRoom (L : Nat) (hL : L ≤ 1048576) (u : World) : (Instr.makeSlice 28 (.int .i64 (L : Int)) (.int .i64 ((L : Int) + 4))).run Try.prog u = .ok (.slice (some ⟨u.heap.size, 0, none⟩) L (L + 4)) (u.alloc (.cells (madeCells #[.int .u8 0] (L + 4)) 5)) := by
  obtain ⟨i0, hi, hz0, hz1, hz2⟩ := info_parts infoU8
  have := run_makeSlice (P := Try.prog) u 28 5 i0 (.int .u8 0) Try.underlying28 hi hz0 .i64 .i64 (L : Int) ((L : Int) + 4) (by omega) (by omega) (by rw [hz1]; omega) (by rw [hz2]; omega) (by omega)
  rw [this, hz1]
  have e : ((L : Int) + 4).toNat = L + 4 := by omega
  rw [e, Nat.mul_one, Int.toNat_natCast]
  rfl
theorem copyRoom (u : World) (Z : ByteArray) (L : Nat) (hL : Z.size = L) : (Builtin.copy_ #[28, 9] 3 #[.slice (some ⟨u.heap.size, 0, none⟩) L (L + 4), .string Z]).run Try.prog (u.alloc (.cells (madeCells #[.int .u8 0] (L + 4)) 5)) =
    .ok (goInt L) ((u.alloc (.cells (madeCells #[.int .u8 0] (L + 4)) 5)).setRow u.heap.size (byteCells Z.data.toList ++ (madeCells #[.int .u8 0] (L + 4)).toList.drop L).toArray) := by
  subst hL
  have := run_copy_row_string (P := Try.prog) (u.alloc (.cells (madeCells #[.int .u8 0] (Z.size + 4)) 5)) 28 9 3 5 u.heap.size 0 Z.size (Z.size + 4) Z _ 5 Try.underlying28 u8Info (heap_alloc_new _ _) (Nat.le_refl _) (by rw [size_madeCells]; omega)
  rw [this, List.take_zero, List.nil_append, Nat.zero_add]
theorem room_own (u : World) (bs : List UInt8) (L : Nat) (hL : bs.length = L) (hx : L ≤ 1048576) : ((u.alloc (.cells (madeCells #[.int .u8 0] (L + 4)) 5)).setRow u.heap.size (byteCells bs ++ (madeCells #[.int .u8 0] (L + 4)).toList.drop L).toArray).ownsRow 0 5 1 (.slice (some ⟨u.heap.size, 0, none⟩) L (L + 4)) L (byteCells bs) := by
  have hbl : (byteCells bs).length = L := by rw [byteCells_length, hL]
  refine ⟨by rw [hbl, Nat.mul_one], .inr ⟨u.heap.size, L + 4, _, rfl, Nat.zero_le _, heapRow_same (heap_alloc_new _ _) _, by omega, by simp only [maxLen]; omega, ?_, ?_⟩⟩
  · rw [List.size_toArray, List.length_append, hbl, List.length_drop, Array.length_toList, size_madeCells]; omega
  · show (byteCells bs ++ _).take _ = _
    rw [Nat.mul_one, List.take_left' hbl]
theorem ixBytes (g n c i : Nat) (hi : i < n) (W : World) : (Instr.indexAt 28 (.slice (some ⟨g, 0, none⟩) n c) (.int .i64 (i : Int))).run Try.prog W = .ok (.pointer (some ⟨g, i, none⟩)) W := by
  have he : Try.prog.elem 28 = 5 := by kernel_rfl
  rw [run_indexAt_slice W 28 _ _ _ _ _ (by rw [he]; kernel_rfl), if_pos ⟨by omega, by omega⟩, he, size_of (n := 1) (by kernel_rfl)]
  simp only [Result.andThen_ok, Int.toNat_natCast, Addr.add_mid, Nat.mul_one, Nat.zero_add]
theorem cont_len (s : ByteArray) (odd : Bool) (h : s.size ≤ 1048576) : (cont s odd).length ≤ 1048576 := by
  unfold cont
  split
  · rw [size_list]; exact h
  · rw [contL_len]; decide
section
variable {B : Nat} {w : World} {D M : Nat} {F G : List Nat} {d : Dk}
set_option maxRecDepth 100000 in
set_option maxHeartbeats 4000000 in
theorem lWritten (h : Two B w D M F G d d) (hB : B ≤ w.heap.size) (hm : d.pend.length ≤ 2000000) (x : St) (hx : x.Ok) (hxs : x.s.size ≤ 1048576) : Calls Try.prog 42 #[.pointer (some ⟨D, 0, none⟩), .pointer (some ⟨M, 0, none⟩), .agg x.cs] w fun e w' => e = .returned (.bool true) ∧
    ∃ F' G', Two B w' D M F' G' (d.write x.n (cont x.s x.odd)).2 (d.write x.n (cont x.s x.odd)).2 ∧ UpS w w' (F ++ G) ∧ (∀ k ∈ F', k ∈ F ∨ w.heap.size ≤ k) ∧ (∀ k ∈ G', k ∈ G ∨ w.heap.size ≤ k) := by
  obtain ⟨N, hN⟩ : ∃ N, N = w.heap.size := ⟨_, rfl⟩
  have HN := hide hN
  have HCT := hide (fun u => lContent x hx.s u)
  obtain ⟨C, hC⟩ : ∃ C, C = x.cs := ⟨_, rfl⟩
  have HC1 : Hid (C.size = 7 ∧ C.all (·.oneCell') = true) := by rw [hC]; exact ⟨x.cs_size, x.cs_one⟩
  have HC2 : Hid (C = #[.int .i64 x.kind, .int .i64 x.n, .string x.s, .bool x.odd, .slice x.kao x.ks.length x.kc, .int .i64 x.torn, .int .i64 x.cut]) := hC
  rw [← hC] at HCT ⊢
  have hbl := cont_len x.s x.odd hxs
  obtain ⟨bs, hbs⟩ : ∃ z, z = cont x.s x.odd := ⟨_, rfl⟩
  rw [← hbs] at HCT hbl ⊢
  obtain ⟨Z, hZ⟩ : ∃ Z : ByteArray, Z = ⟨bs.toArray⟩ := ⟨_, rfl⟩
  rw [← hZ] at HCT
  have HZ := hide hZ
  have HZB : Hid (Z.data.toList = bs) := (show Z.data.toList = bs from by rw [hZ])
  obtain ⟨L, hL⟩ : ∃ L, L = bs.length := ⟨_, rfl⟩
  have hzs : Z.size = L := by rw [hZ, hL]; exact size_mk bs
  have hL1 : L ≤ 1048576 := by rw [hL]; exact hbl
  have HL := hide hL
  obtain ⟨xn, hxn⟩ : ∃ z, z = x.n := ⟨_, rfl⟩
  rw [← hxn] at HC2 ⊢
  have hmk := fun u => mkRoom L hL1 u
  have hw4 : wrap64 ((L : Int) + 4) = (L : Int) + 4 := by go_unwrap
  have HH := hide h
  have HMB : Hid (d.pend.length ≤ 2000000 ∧ B ≤ w.heap.size) := ⟨hm, hB⟩
  have hwr : d.write xn bs = ((d.write xn bs).1, (d.write xn bs).2) := rfl
  obtain ⟨ec, hec⟩ : ∃ z, z = (d.write xn bs).1 := ⟨_, rfl⟩
  obtain ⟨d', hd'⟩ : ∃ z, z = (d.write xn bs).2 := ⟨_, rfl⟩
  rw [← hec, ← hd'] at hwr
  have HWR := hide hwr
  have HRW : Hid (∀ u G, Rk B u M G d → B ≤ u.heap.size → Calls Try.prog 48 #[.pointer (some ⟨M, 0, none⟩), .int .i64 xn, .string Z] u fun e u' => e = .returned (.int .i64 ec) ∧ ∃ F', Rk B u' M F' d' ∧ UpS u u' G ∧ ∀ k ∈ F', k ∈ G ∨ u.heap.size ≤ k) := fun u G h0 h1 => by
    rw [hec, hd', unhide HZ]
    exact rWrite h0 h1 xn bs (by have := (unhide HMB).1; omega)
  rw [← hd']
  clear hC hZ hL hbl hbs hxn hN h hm hB hx hxs hwr hec hd'
  go_enter Try.func42, Try.ntmps42
  go_wp2_with (first | (refine wpList_box_row (by rfl) 47 (.tmp 2) (by rfl) (some 5) (by rfl) N (by exact (unhide HN).symm) C (by rfl) ?_; intro W1 HX1 HB1 HS1; simp only [Act.put, List.setIfInBounds_toArray, List.set_cons_zero, List.set_cons_succ]) | (refine wpList_load_row (by rfl) 47 (.tmp 5) (by rfl) N (by rfl) 47 C (0, 0) _ (unhide HX1) stepUnd rfl (by rw [(unhide HC1).1]; exact stepInfo) ?_; simp only [Act.put, List.setIfInBounds_toArray, List.set_cons_zero, List.set_cons_succ]))
  refine (unhide HCT _).mono ?_
  rintro e w2 ⟨rfl, hb⟩
  have HBW : Hid (Below w.heap.size w W1) := by rw [← unhide HN]; exact unhide HB1
  have HC : Hid (W1.cell? ⟨N, 1, none⟩ = some (.int .i64 xn)) := show W1.cell? ⟨N, 1, none⟩ = _ from by rw [cell_of_row W1 N 1 _ _ _ (unhide HX1), unhide HC2]; rfl
  have HB2 : Hid (Below W1.heap.size W1 w2) := hb
  have hcp := copyRoom w2 Z L hzs
  have HO3 := hide (room_own w2 bs L (unhide HL).symm hL1)
  rw [unhide HZB] at hcp
  have HU3 : Hid (UpS W1 ((w2.alloc (.cells (madeCells #[.int .u8 0] (L + 4)) 5)).setRow w2.heap.size (byteCells bs ++ (madeCells #[.int .u8 0] (L + 4)).toList.drop L).toArray) []) := ((UpS.ofBelow [] hb).alloc _).setRow (.inr hb.size) _
  have HS3 : Hid (w2.heap.size < ((w2.alloc (.cells (madeCells #[.int .u8 0] (L + 4)) 5)).setRow w2.heap.size (byteCells bs ++ (madeCells #[.int .u8 0] (L + 4)).toList.drop L).toArray).heap.size) := show _ < _ from by simp [World.setRow]
  have HW2 : Hid (W1.heap.size ≤ w2.heap.size) := hb.size
  obtain ⟨W3, hW3⟩ : ∃ z, z = (w2.alloc (.cells (madeCells #[.int .u8 0] (L + 4)) 5)).setRow w2.heap.size (byteCells bs ++ (madeCells #[.int .u8 0] (L + 4)).toList.drop L).toArray := ⟨_, rfl⟩
  rw [← hW3] at hcp HO3 HU3 HS3
  clear hb HX1 HB1 HCT HC1 HC2 HS1 hW3
  obtain ⟨i0, hi, hz0, hz1, hz2⟩ := info_parts infoU8
  have hown : (W3.alloc (.cells #[.int .u8 1, .int .u8 2, .int .u8 3, .int .u8 4] 5)).ownsRow 0 5 1 (.slice (some ⟨w2.heap.size, 0, none⟩) L (L + 4)) L (byteCells bs) := ownsRow_keep (unhide HO3) fun q hq => Deep.blk_alloc_lt W3 _ q ((unhide HO3).lt q hq).2
  obtain ⟨v', w5, hrun, hown', hgrow, hnew⟩ := run_append_own' (P := Try.prog) (W3.alloc (.cells #[.int .u8 1, .int .u8 2, .int .u8 3, .int .u8 4] 5)) 0 28 28 5 i0 (.int .u8 0) 1 1 Try.underlying28 hi hz0 hz1 hz2 rfl (by decide) _ L (byteCells bs) hown ⟨W3.heap.size, 0, none⟩ 4 4 [.int .u8 1, .int .u8 2, .int .u8 3, .int .u8 4] rfl (fun j y hy => by
    rw [Addr.add_mid, Nat.zero_add, cell_of_row _ W3.heap.size j _ _ _ (heap_alloc_new W3 _)]
    simpa using hy) (fun y hy => by simp at hy; rcases hy with rfl | rfl | rfl | rfl <;> rfl) (by simp only [maxLen]; omega) (by omega) (Nat.zero_le _)
  obtain ⟨g, c, hv', hg0, hrow, hcl⟩ : ∃ g c, v' = .slice (some ⟨g, 0, none⟩) (L + 4) c ∧ W1.heap.size ≤ g ∧ g < w5.heap.size ∧ L + 4 ≤ c := by
    rcases hown'.2 with ⟨_, h2⟩ | ⟨g, cap, cur, hv, h1, h2, h3, h4, h5, h6⟩
    · omega
    · refine ⟨g, cap, hv, ?_, (Array.getElem?_eq_some_iff.1 h2).1, h3⟩
      rcases hnew with h | ⟨g', h1, h2⟩
      · rw [hv] at h; simp [Value.ownBlock] at h; rw [h]; exact unhide HW2
      · rw [hv] at h1; simp [Value.ownBlock] at h1; rw [← h1] at h2; simp at h2; have := (unhide HU3).size; omega
  subst hv'
  have HO5 := hide hown'
  have HU5 : Hid (UpS W1 w5 []) := ((unhide HU3).alloc _).trans (UpS.ofGrown (F := [w2.heap.size]) hgrow (fun q hq => .inl (by simp [Value.ownBlock] at hq; simp [hq]))) (fun x hx => .inr (by rw [List.mem_singleton.1 hx]; exact unhide HW2))
  have HG : Hid (W1.heap.size ≤ g ∧ g < w5.heap.size) := ⟨hg0, hrow⟩
  have HN1 : Hid (N < W1.heap.size) := World.block_lt_of_cell? W1 _ (unhide HC)
  have hc5 : w5.cell? ⟨N, 1, none⟩ = some (.int .i64 xn) := ((unhide HU5).cell (p := ⟨N, 1, none⟩) (unhide HN1) (by simp)).trans (unhide HC)
  have hci : (L : Int) ≤ (c : Int) := by omega
  clear hown hown' hgrow hnew hi hz0 hz1 hz2 hg0 hrow hcl
  go_wp2_with (at_builtin; refine append_to (by rfl) (.tmp 24) (.tmp 25) 28 28 (by rfl) (some 26) (by rfl) 28 (by rfl) _ _ (by rfl) (by rfl) _ _ hrun ?_; simp only [Act.put, List.setIfInBounds_toArray, List.set_cons_zero, List.set_cons_succ]; clear hrun hcp hmk)
  have HT5 : Hid (Two B w5 D M F G d d) := ((unhide HH).below (unhide HBW)).upd (unhide HU5) (fun _ _ => by simp)
  have HGF : Hid ((g ∉ F ∧ g ∉ G) ∧ N ∉ F ∧ N ∉ G) := ⟨⟨fun hk => by have := ((unhide HH).dk.ge _ hk).2; have := (unhide HBW).size; have := (unhide HG).1; omega, fun hk => by have := ((unhide HH).rk.ge _ hk).2; have := (unhide HBW).size; have := (unhide HG).1; omega⟩,
    fun hk => by have := ((unhide HH).dk.ge _ hk).2; have := unhide HN; omega, fun hk => by have := ((unhide HH).rk.ge _ hk).2; have := unhide HN; omega⟩
  have HR5 : Hid (w5.rangeAt g 0 (byteCells bs)) := fun j v hv => by
    have hj : j < L := by have := (List.getElem?_eq_some_iff.1 hv).1; rwa [byteCells_length, ← unhide HL] at this
    obtain ⟨g2, c2, y, e1, e2, e3, _⟩ := ownsRow_cell (unhide HO5) j (by omega)
    obtain ⟨rfl, rfl⟩ : g = g2 ∧ c = c2 := by simpa using e1
    rw [Nat.zero_add, e3, ← hv, ← e2, List.getElem?_append_left (by rw [byteCells_length, ← unhide HL]; exact hj)]
  have HW5 : Hid (w.heap.size ≤ w5.heap.size) := Nat.le_trans (unhide HBW).size (unhide HU5).size
  have HN5 : Hid (N < w5.heap.size) := Nat.lt_of_lt_of_le (unhide HN1) (unhide HU5).size
  have HKW := hide (kWriteN (unhide HT5).dk (by have := (unhide HMB).2; have := unhide HW5; omega) xn (some ⟨g, 0, none⟩) L c bs (unhide HL) (fun _ => ⟨g, 0, rfl, (unhide HGF).1.1, unhide HR5⟩) (by have := (unhide HMB).1; omega) _ (unhide HWR))
  refine (unhide HKW).mono ?_
  rintro e w6 ⟨rfl, F6, hd6, hu6, hf6⟩
  have HT6 := hide ((unhide HT5).onD hd6 hu6 hf6)
  have HU6 := hide hu6
  have HF6 : Hid (∀ k ∈ F6, k ∈ F ∨ w5.heap.size ≤ k) := hf6
  have hc6 : w6.cell? ⟨N, 1, none⟩ = some (.int .i64 xn) := (hu6.cell (p := ⟨N, 1, none⟩) (unhide HN5) (unhide HGF).2.1).trans hc5
  have HN6 : Hid (N < w6.heap.size) := Nat.lt_of_lt_of_le (unhide HN5) hu6.size
  clear hd6 hu6 hf6 HKW hc5
  go_wp2_with fail
  refine (unhide HRW w6 G (unhide HT6).rk (by have := (unhide HMB).2; have := unhide HW5; have := (unhide HU6).size; omega)).mono ?_
  rintro e w7 ⟨rfl, G7, hd7, hu7, hf7⟩
  have HT7 := hide ((unhide HT6).onR hd7 hu7 hf7)
  have HU7 : Hid (UpS w5 w7 (F ++ G)) := ((unhide HU6).mono (fun k hk => .inl (by simp [hk]))).trans hu7 (fun k hk => .inl (by simp [hk]))
  have HG7 : Hid (∀ k ∈ G7, k ∈ G ∨ w5.heap.size ≤ k) := fun k hk => (hf7 k hk).imp id (fun h => Nat.le_trans (unhide HU6).size h)
  have hb7 : w7.heap[g]? = w5.heap[g]? := (unhide HU7).block g (unhide HG).2 (by simp [(unhide HGF).1])
  have HO7 : Hid (w7.ownsRow 0 5 1 (.slice (some ⟨g, 0, none⟩) (L + 4) c) (L + 4) (byteCells bs ++ [.int .u8 1, .int .u8 2, .int .u8 3, .int .u8 4])) := ownsRow_keep (unhide HO5) fun k hk => by simp [Value.ownBlock] at hk; rw [← hk]; exact hb7
  have HR7 : Hid (w7.rangeAt g 0 (byteCells bs)) := fun j v hv => (World.cell?_of_block (a := ⟨g, 0 + j, none⟩) hb7).trans (unhide HR5 j v hv)
  have hcv : (convert 28 9 (.slice (some ⟨g, 0, none⟩) L c)).run Try.prog w7 = .ok (.string Z) w7 := by rw [unhide HZ]; exact conv_range (unhide HR7) L c (unhide HL)
  have HUW : Hid (UpS w w7 (F ++ G)) := ((UpS.ofBelow (F ++ G) (unhide HBW)).trans (unhide HU5) (fun k hk => by cases hk)).trans (unhide HU7) (fun k hk => .inl hk)
  have q1 : w7.cell? ⟨g, L, none⟩ = some (.int .u8 1) := by
    obtain ⟨g2, c2, y, e1, e2, e3, _⟩ := ownsRow_cell (unhide HO7) L (by omega)
    obtain ⟨rfl, rfl⟩ : g = g2 ∧ c = c2 := by simpa using e1
    rw [e3, ← e2, List.getElem?_append_right (by rw [byteCells_length, ← unhide HL]; exact Nat.le_refl _), byteCells_length, ← unhide HL, Nat.sub_self]
    rfl
  have q4 : w7.cell? ⟨g, L + 3, none⟩ = some (.int .u8 4) := by
    obtain ⟨g2, c2, y, e1, e2, e3, _⟩ := ownsRow_cell (unhide HO7) (L + 3) (by omega)
    obtain ⟨rfl, rfl⟩ : g = g2 ∧ c = c2 := by simpa using e1
    rw [e3, ← e2, List.getElem?_append_right (by rw [byteCells_length, ← unhide HL]; omega), byteCells_length, ← unhide HL, Nat.add_sub_cancel_left]
    rfl
  have hix1 := ixBytes g (L + 4) c L (by omega)
  have hix4 : ∀ W : World, (Instr.indexAt 28 (.slice (some ⟨g, 0, none⟩) (L + 4) c) (.int .i64 ((L : Int) + 3))).run Try.prog W = .ok (.pointer (some ⟨g, L + 3, none⟩)) W := fun W => ixBytes g (L + 4) c (L + 3) (by omega) W
  have hw3 : wrap64 ((L : Int) + 3) = (L : Int) + 3 := by go_unwrap
  clear hd7 hu7 hf7 HT6 HU6 HN6 hc6 HO5 HR5 HR7 hb7 HRW
  go_wp2
  go_loopw [12] (fun i wr => ∃ (k : Nat) (ys : List Value), k ≤ L + 4 ∧ i = .int .i64 k ∧ Hid (wr.ownsRow 0 5 1 (.slice (some ⟨g, 0, none⟩) (L + 4) c) (L + 4) ys ∧ (∀ x ∈ ys, ∃ y : Int, x = .int .u8 y) ∧ UpS w7 wr [g])) (fun i _ => L + 4 - (intOf i).toNat)
  case atStart => exact ⟨0, _, Nat.zero_le _, rfl, unhide HO7, fun x hx => by
    rcases List.mem_append.1 hx with hx | hx
    · exact byteCells_int _ x hx
    · simp at hx; rcases hx with rfl | rfl | rfl | rfl <;> exact ⟨_, rfl⟩, UpS.refl _ _⟩
  case round =>
    obtain ⟨k, ys, hk, rfl, HI⟩ := hrel
    clear q1 q4 hix1 hix4 hcv
    by_cases hlt : k < L + 4
    · have hki : (k : Int) < (L : Int) + 4 := by omega
      obtain ⟨ho, hy, hu⟩ := unhide HI
      obtain ⟨g2, c2, x, hv, hx, hc, hz⟩ := ownsRow_cell ho k hlt
      obtain ⟨rfl, rfl⟩ : g = g2 ∧ c = c2 := by simpa using hv
      obtain ⟨y, rfl⟩ := hy x (List.mem_of_getElem? hx)
      have hix := ixBytes g (L + 4) c k hlt
      have HNX : Hid ((wr.setCell ⟨g, k, none⟩ (.int .u8 165)).ownsRow 0 5 1 (.slice (some ⟨g, 0, none⟩) (L + 4) c) (L + 4) (ys.set k (.int .u8 165)) ∧ (∀ x ∈ ys.set k (.int .u8 165), ∃ y : Int, x = .int .u8 y) ∧ UpS w7 (wr.setCell ⟨g, k, none⟩ (.int .u8 165)) [g]) :=
        ⟨ownsRow_set ho k _, fun x hx => (List.mem_or_eq_of_mem_set hx).elim (hy x) (fun h => ⟨_, h⟩), hu.setCell (.inl (by simp)) _⟩
      clear ho hy hu hv hx HI
      go_wp2
      go_roundw
      case rel => exact ⟨k + 1, _, by omega, by go_num, HNX⟩
      case measure => simp [intOf]; omega
    · have hkk : k = L + 4 := by omega
      subst hkk
      go_wp2
      go_ret
      have hu := (unhide HI).2.2
      refine ⟨rfl, F6, G7, (unhide HT7).upd hu (fun k hk hx => ?_), (unhide HUW).trans hu (fun k hk => .inr ?_), fun k hk => (unhide HF6 k hk).imp id (fun h => Nat.le_trans (unhide HW5) h), fun k hk => (unhide HG7 k hk).imp id (fun h => Nat.le_trans (unhide HW5) h)⟩
      · rw [List.mem_singleton.1 hx] at hk
        have := (unhide HG).2
        rcases List.mem_append.1 hk with hk | hk
        · exact (unhide HF6 g hk).elim (unhide HGF).1.1 (fun h => by omega)
        · exact (unhide HG7 g hk).elim (unhide HGF).1.2 (fun h => by omega)
      · rw [List.mem_singleton.1 hk]; have := (unhide HG).1; have := (unhide HBW).size; omega
end
end Go.Proofs.Ytfdibmbffmgikaa
