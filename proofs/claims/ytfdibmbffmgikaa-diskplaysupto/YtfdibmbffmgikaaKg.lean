/- The disk: Write, whatever it is handed; New. -/
import Derived.Test.YtfdibmbffmgikaaKf
namespace Go.Proofs.Ytfdibmbffmgikaa
open Go.RowKit Go.Lib

/-- bytes that lie somewhere -/
def Bs (u : World) (ao : Option Addr) (bs : List UInt8) (F : List Nat) : Prop := 0 < bs.length → ∃ g o, ao = some ⟨g, o, none⟩ ∧ g ∉ F ∧ u.rangeAt g o (byteCells bs)
def Dk.write (d : Dk) (x : Int) (bs : List UInt8) : Int × Dk :=
  if d.refused x ≠ 0 then (d.refused x, d) else if bs.length ≠ 1024 then (1, d) else if d.fuse = 0 then (40, d.asked) else (0, d.asked.put x.toNat bs)
theorem Dk.refused_zero {d : Dk} {x : Int} (h : d.refused x = 0) : d.off = false ∧ 0 ≤ x ∧ x < (d.lies.length : Int) := by
  unfold Dk.refused at h
  split at h
  · cases h
  · split at h
    · rename_i h1 h2
      exact ⟨by simpa using h1, h2⟩
    · cases h
section
variable {B : Nat} {u : World} {D L T : Nat} {v : Value} {f : List Nat} {d : Dk} {F : List Nat}
theorem kWriteBad (h : DskX B u D L T v f d) (x : Int) (c : Int) (hc : d.refused x = c) (h0 : c ≠ 0) (s : Value) : Calls Try.prog 13 #[.pointer (some ⟨D, 0, none⟩), .int .i64 x, s] u fun e u' => e = .returned (.int .i64 c) ∧ u' = u := by
  have hk := kRefused h x
  rw [hc] at hk
  clear h hc
  go_enter Try.func13, Try.ntmps13
  go_wp2_with fail
  refine hk.mono ?_
  rintro e w1 ⟨rfl, hw⟩
  obtain rfl := hw.symm
  clear hw hk
  go_wp2
  go_ret
  exact ⟨rfl, rfl⟩
theorem kWriteLen (h : DskX B u D L T v f d) (x : Int) (hc : d.refused x = 0) (ao : Option Addr) (n c : Nat) (hn : n ≠ 1024) : Calls Try.prog 13 #[.pointer (some ⟨D, 0, none⟩), .int .i64 x, .slice ao n c] u fun e u' => e = .returned (.int .i64 1) ∧ u' = u := by
  have hk := kRefused h x
  rw [hc] at hk
  have hni : ¬ (n : Int) = 1024 := by omega
  clear h hc
  go_enter Try.func13, Try.ntmps13
  go_wp2_with fail
  refine hk.mono ?_
  rintro e w1 ⟨rfl, hw⟩
  obtain rfl := hw.symm
  clear hw hk
  go_wp2
  go_ret
  exact ⟨rfl, rfl⟩
theorem kWriteFuse (h : DskX B u D L T v f d) (x : Int) (hc : d.refused x = 0) (ao : Option Addr) (c : Nat) (hf : d.fuse = 0) : Calls Try.prog 13 #[.pointer (some ⟨D, 0, none⟩), .int .i64 x, .slice ao 1024 c] u fun e u' => e = .returned (.int .i64 40) ∧ DskX B u' D L T v f d.asked ∧ UpS u u' [D] := by
  have hk := kRefused h x
  rw [hc] at hk
  have hka := kAsk h
  rw [if_pos hf] at hka
  clear h hc
  go_enter Try.func13, Try.ntmps13
  go_wp2_with fail
  refine hk.mono ?_
  rintro e w1 ⟨rfl, hw⟩
  obtain rfl := hw.symm
  clear hw hk
  go_wp2_with fail
  refine hka.mono ?_
  rintro e w2 ⟨rfl, hw⟩
  clear hka
  have HW := hide hw
  clear hw
  go_wp2
  go_ret
  exact ⟨rfl, unhide HW⟩
theorem kWrite (h : Dsk B u D F d) (hB : B ≤ u.heap.size) (x : Int) (ao : Option Addr) (c : Nat) (bs : List UInt8) (hs : Bs u ao bs F) (hm : d.pend.length ≤ 1000000000) :
    Calls Try.prog 13 #[.pointer (some ⟨D, 0, none⟩), .int .i64 x, .slice ao bs.length c] u fun e u' => e = .returned (.int .i64 (d.write x bs).1) ∧ ∃ F', Dsk B u' D F' (d.write x bs).2 ∧ UpS u u' F ∧ ∀ k ∈ F', k ∈ F ∨ u.heap.size ≤ k := by
  obtain ⟨L, T, v, f, rfl, h⟩ := h
  unfold Dk.write
  by_cases h1 : d.refused x = 0
  · rw [if_neg (fun h => h h1)]
    obtain ⟨g1, g2, g3⟩ := Dk.refused_zero h1
    by_cases h2 : bs.length = 1024
    · rw [if_neg (fun h => h h2)]
      by_cases h3 : d.fuse = 0
      · rw [if_pos h3, h2]
        refine (kWriteFuse h x h1 ao c h3).mono fun e u' ⟨he, hd, hu⟩ => ⟨he, _, ⟨L, T, v, f, rfl, hd⟩, hu.mono fun y hy => .inl (by simp_all), fun k hk => .inl hk⟩
      · rw [if_neg h3]
        obtain ⟨g, o, rfl, hg, hr⟩ := hs (by omega)
        rw [h2]
        obtain ⟨n, rfl⟩ := Int.eq_ofNat_of_zero_le g2
        refine (kWriteOk h hB n (by omega) g1 h3 hm g o c bs h2 hr (fun e => hg (by simp [e]))).mono fun e u' ⟨he, v', f', hd, hv, hu⟩ => ⟨he, _, ⟨L, T, v', f', rfl, hd⟩, hu, fun k hk => ?_⟩
        simp only [List.mem_cons] at hk ⊢
        rcases hk with h' | h' | h' | h'
        · simp [h']
        · simp [h']
        · simp [h']
        · have h' := mem_toList h'
          rcases hv with hv | ⟨q, hq, hq2⟩
          · exact .inl (.inr (.inr (.inr (by rw [← hv, h']; simp))))
          · rw [h'] at hq; cases hq; exact .inr hq2
    · rw [if_pos h2]
      refine (kWriteLen h x h1 ao _ c h2).mono fun e u' ⟨he, hu⟩ => ⟨he, _, ⟨L, T, v, f, rfl, hu ▸ h⟩, hu ▸ UpS.refl _ _, fun k hk => .inl hk⟩
  · rw [if_pos h1]
    refine (kWriteBad h x _ rfl h1 _).mono fun e u' ⟨he, hu⟩ => ⟨he, _, ⟨L, T, v, f, rfl, hu ▸ h⟩, hu ▸ UpS.refl _ _, fun k hk => .inl hk⟩
end
def Dk.blank (n : Nat) : Dk := ⟨List.replicate n (zeros 1024), [], false, -1⟩
theorem pZero : ((Try.prog.info? 78).bind (·.zero)).map (·.cells) = some (img (zeros 1024)) := by kernel_rfl
theorem pSize : (Try.prog.info? 78).map (fun i => (i.size, i.bytes, i.zero.isSome)) = some (1024, 1024, true) := by kernel_rfl
theorem zlen (n : Nat) : (zeros n).length = n := List.length_replicate ..
theorem zat (n k : Nat) (h : k < (zeros n).length) : (zeros n)[k] = 0 := List.getElem_replicate ..
theorem made_zeros (n : Nat) : madeCells (img (zeros 1024)) (n * 1024) = img (List.replicate n (zeros 1024)).flatten := by
  have hf : (List.replicate n (zeros 1024)).flatten = zeros (n * 1024) := by rw [zeros, zeros, List.flatten_replicate_replicate]
  rw [hf]
  apply Array.ext_getElem?
  intro k
  by_cases hk : k < n * 1024
  · have h1 : k % (zeros 1024).length < (zeros 1024).length := Nat.mod_lt _ (by rw [zlen]; decide)
    have h2 : k < (zeros (n * 1024)).length := by rw [zlen]; exact hk
    rw [img_at _ k h2]
    simp only [madeCells, Array.getElem?_map, Array.getElem?_range, hk, if_true, Option.map_some, img_size]
    rw [getElem!_pos _ _ (by rw [img_size]; exact h1)]
    have := img_at (zeros 1024) _ h1
    rw [Array.getElem?_eq_getElem (by rw [img_size]; exact h1)] at this
    rw [Option.some.inj this]
    congr 3
    rw [zat, zat]
  · rw [Array.getElem?_eq_none (by simp [size_madeCells]; omega), Array.getElem?_eq_none (by rw [img_size, zlen]; omega)]
theorem mkPages (n : Nat) (hn : n ≤ 4096) (W : World) : (Instr.makeSlice 66 (.int .i64 (n : Int)) (.int .i64 (n : Int))).run Try.prog W = .ok (.slice (some ⟨W.heap.size, 0, none⟩) n n) (W.alloc (.cells (img (List.replicate n (zeros 1024)).flatten) 78)) := by
  have h1 := pSize
  have h2 := pZero
  cases hq : Try.prog.info? 78 with
  | none => simp [hq] at h1
  | some i =>
    simp [hq] at h1 h2
    obtain ⟨a, b, c⟩ := h1
    cases hz : i.zero with
    | none => simp [hz] at c
    | some z =>
      simp [hz] at h2
      have hr := run_make (P := Try.prog) W 66 78 i z pagesUnd hq hz .i64 .i64 n n (by omega) (Int.le_refl _) (by rw [b]; omega) (by omega)
      rw [hr, a, h2, Int.toNat_natCast, made_zeros]
theorem infoInt : (Try.prog.info? 3).map (fun i => (i.zero, i.size, i.bytes)) = some (some (.int .i64 0), 1, 8) := by kernel_rfl
theorem mkInts (n : Nat) (hn : n ≤ 4096) (W : World) : (Instr.makeSlice 68 (.int .i64 (n : Int)) (.int .i64 (n : Int))).run Try.prog W = .ok (.slice (some ⟨W.heap.size, 0, none⟩) n n) (W.alloc (.cells (nums (List.replicate n 0)) 3)) := by
  rw [run_make_row' (P := Try.prog) 68 3 (.int .i64 0) 8 Try.underlying68 infoInt rfl .i64 .i64 n (by omega) (by omega) W]
  congr 4
  apply Array.ext_getElem?
  intro k
  by_cases hk : k < n
  · simp [madeCells, nums, hk, Nat.mod_one]
  · rw [Array.getElem?_eq_none (by rw [size_madeCells]; omega), Array.getElem?_eq_none (by simp [nums]; omega)]
theorem blank_ok (n : Nat) (h0 : 0 < n) (h1 : n ≤ 4096) : (Dk.blank n).Ok :=
  ⟨by simpa [Dk.blank] using h0, by simpa [Dk.blank] using h1, fun l hl => by simp only [Dk.blank] at hl; rw [(List.mem_replicate.1 hl).2]; exact List.length_replicate .., (fun _ hq => by cases hq), (by show (-1 : Int) ≤ -1; decide), (by show (-1 : Int) ≤ 9223372036854775807; decide)⟩
theorem blank_disk {W : World} {B n D L T : Nat} (h0 : 0 < n) (h1 : n ≤ 4096) (hD : W.heap[D]? = some (.cells (dCells n L T (.slice none 0 0) false (-1)) 70 (0, 0))) (hL : W.heap[L]? = some (.cells (img (List.replicate n (zeros 1024)).flatten) 78 (0, 0))) (hT : W.heap[T]? = some (.cells (nums (List.replicate n 0)) 3 (0, 0)))
    (bD : B ≤ D) (bL : B ≤ L) (bT : B ≤ T) (dl : D ≠ L) (dt : D ≠ T) (lt : L ≠ T) : Dsk B W D [D, L, T] (Dk.blank n) :=
  ⟨L, T, .slice none 0 0, List.replicate n 0, rfl, ⟨by rw [hD]; simp [Dk.blank], hL, hT, World.ownsRow_nil _ _ _ _, by simp [Dk.blank], bD, bL, bT, dl, dt, lt, by simp [Value.ownBlock], by simp [Value.ownBlock], by simp [Value.ownBlock], blank_ok n h0 h1⟩, fun k x hx => by
    have := List.mem_of_getElem? hx
    rw [(List.mem_replicate.1 this).2]
    exact Lst.nil _⟩
theorem heap3 (u : World) (x y z : Obj) : (((u.alloc x).alloc y).alloc z).drew.heap[u.heap.size]? = some x ∧ (((u.alloc x).alloc y).alloc z).drew.heap[u.heap.size + 1]? = some y ∧ (((u.alloc x).alloc y).alloc z).drew.heap[u.heap.size + 1 + 1]? = some z := by
  have e1 : (u.alloc x).heap.size = u.heap.size + 1 := by simp
  have e2 : ((u.alloc x).alloc y).heap.size = u.heap.size + 1 + 1 := by simp
  refine ⟨?_, ?_, ?_⟩
  · show (((u.alloc x).alloc y).alloc z).heap[u.heap.size]? = some x
    rw [Deep.blk_alloc_lt _ _ _ (by omega), Deep.blk_alloc_lt _ _ _ (by omega), heap_alloc_new]
  · show (((u.alloc x).alloc y).alloc z).heap[u.heap.size + 1]? = some y
    rw [Deep.blk_alloc_lt _ _ _ (by omega), ← e1, heap_alloc_new]
  · show (((u.alloc x).alloc y).alloc z).heap[u.heap.size + 1 + 1]? = some z
    rw [← e2, heap_alloc_new]
theorem below3 (u : World) (x y z : Obj) : Below u.heap.size u (((u.alloc x).alloc y).alloc z).drew := by
  have h := (((Below.refl u.heap.size u).alloc (Nat.le_refl _) x).alloc (by simp) y).alloc (by simp; omega) z
  exact ⟨h.os, h.tape, h.output, h.size, h.block⟩
set_option maxRecDepth 100000 in
set_option maxHeartbeats 2000000 in
theorem dNew (n : Nat) (h0 : 0 < n) (h1 : n ≤ 4096) (u : World) : Calls Try.prog 20 #[.int .i64 (n : Int)] u fun e u' => ∃ D F, e = .returned (.tuple #[.pointer (some ⟨D, 0, none⟩), .int .i64 0]) ∧ Dsk u.heap.size u' D F (Dk.blank n) ∧ Below u.heap.size u u' := by
  have hp := mkPages n h1
  have hq := mkInts n h1
  have hn0 : ¬ (n : Int) < 1 := by omega
  have hn1 : ¬ (4096 : Int) < (n : Int) := by omega
  obtain ⟨C1, hC1⟩ : ∃ C, C = img (List.replicate n (zeros 1024)).flatten := ⟨_, rfl⟩
  obtain ⟨C2, hC2⟩ : ∃ C, C = nums (List.replicate n 0) := ⟨_, rfl⟩
  rw [← hC1] at hp
  rw [← hC2] at hq
  have HC := hide (And.intro hC1 hC2)
  have H0 := hide (And.intro h0 h1)
  clear hC1 hC2 h0 h1
  go_enter Try.func20, Try.ntmps20
  go_wp2
  go_region
  · go_wp2
    go_ret2
    obtain ⟨e1, e2⟩ := unhide HC
    obtain ⟨x1, x2, x3⟩ := heap3 u (.cells C1 78) (.cells C2 3) (.cells (dCells n u.heap.size (u.heap.size + 1) (.slice none 0 0) false (-1)) 70)
    refine ⟨u.heap.size + 1 + 1, _, rfl, blank_disk (unhide H0).1 (unhide H0).2 (L := u.heap.size) (T := u.heap.size + 1) x3 (by rw [← e1]; exact x1) (by rw [← e2]; exact x2) (by omega) (by omega) (by omega) (by omega) (by omega) (by omega), below3 _ _ _ _⟩
  · go_wp2
    go_ret2
    obtain ⟨e1, e2⟩ := unhide HC
    obtain ⟨x1, x2, x3⟩ := heap3 u (.cells C2 3) (.cells C1 78) (.cells (dCells n (u.heap.size + 1) u.heap.size (.slice none 0 0) false (-1)) 70)
    refine ⟨u.heap.size + 1 + 1, _, rfl, blank_disk (unhide H0).1 (unhide H0).2 (L := u.heap.size + 1) (T := u.heap.size) x3 (by rw [← e1]; exact x2) (by rw [← e2]; exact x1) (by omega) (by omega) (by omega) (by omega) (by omega) (by omega), below3 _ _ _ _⟩
theorem dNewBad (x : Int) (hx : x < 1 ∨ 4096 < x) (u : World) : Calls Try.prog 20 #[.int .i64 x] u fun e u' => e = .returned (.tuple #[.pointer none, .int .i64 1]) ∧ u' = u := by
  by_cases h : x < 1
  · go_enter Try.func20, Try.ntmps20
    go_wp2
    go_ret2
    exact ⟨rfl, rfl⟩
  · have h2 : 4096 < x := hx.resolve_left h
    go_enter Try.func20, Try.ntmps20
    go_wp2
    go_ret2
    exact ⟨rfl, rfl⟩
end Go.Proofs.Ytfdibmbffmgikaa
