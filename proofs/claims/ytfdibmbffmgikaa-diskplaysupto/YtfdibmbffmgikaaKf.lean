/- The disk: Write. -/
import Derived.Test.YtfdibmbffmgikaaKe
import Derived.Test.YtfdibmbffmgikaaKw
namespace Go.Proofs.Ytfdibmbffmgikaa
open Go.RowKit Go.Lib

theorem wZero : ((Try.prog.info? 80).bind (·.zero)).map (·.cells) = some (wCells (0, zeros 1024)).toArray := by kernel_rfl
theorem wSize : (Try.prog.info? 80).map (fun i => (i.size, i.bytes, i.zero.isSome)) = some (1025, 1032, true) := by kernel_rfl
theorem wInfo : ∃ i z, Try.prog.info? 80 = some i ∧ i.zero = some z ∧ i.size = 1025 ∧ i.bytes = 1032 ∧ z.cells.size = 1025 := by
  have h1 := wSize
  have h2 := wZero
  cases hq : Try.prog.info? 80 with
  | none => simp [hq] at h1
  | some i =>
    simp [hq] at h1 h2
    obtain ⟨a, b, c⟩ := h1
    cases hz : i.zero with
    | none => simp [hz] at c
    | some z =>
      simp [hz] at h2
      exact ⟨i, z, rfl, hz, a, b, by rw [h2, List.size_toArray]; exact wCells_len _ (List.length_replicate ..)⟩
set_option maxRecDepth 100000 in
theorem wBuild (n : Nat) : Try.prog.built 80 [(0, .int .i64 (n : Int))] = some (wCells (n, zeros 1024)).toArray := by kernel_rfl
theorem wCopy (W : World) (N g o n bc : Nat) (bs : List UInt8) (hb : bs.length = 1024) (hN : W.heap[N]? = some (.cells (wCells (n, zeros 1024)).toArray 80 (0, 0))) (hr : W.rangeAt g o (byteCells bs)) :
    (Builtin.copy_ #[28, 28] 3 #[.slice (some ⟨N, 1, none⟩) 1024 1024, .slice (some ⟨g, o, none⟩) 1024 bc]).run Try.prog W = .ok (.int .i64 1024) (W.setRow N (wCells (n, bs)).toArray) := by
  have hbl : (byteCells bs).length = 1024 := by rw [byteCells_length, hb]
  have hcl : (wCells (n, zeros 1024)).toArray.size = 1025 := by rw [List.size_toArray]; exact wCells_len _ (List.length_replicate ..)
  have := run_copy_row (P := Try.prog) W 28 28 3 5 N 1 1024 1024 ⟨g, o, none⟩ 1024 bc _ _ (byteCells bs) Try.underlying28 u8Info hN (by rw [hbl]; rfl) (fun j x hx => by rw [Addr.add_mid]; exact hr j x hx) (by omega) (byteCells_one bs)
  rw [this, hbl, List.drop_of_length_le (by rw [Array.length_toList]; omega), List.append_nil]
  rfl
def Dk.put (d : Dk) (n : Nat) (b : List UInt8) : Dk := ⟨d.lies, d.pend ++ [(n, b)], d.off, d.fuse⟩
theorem Dk.Ok.put {d : Dk} (h : d.Ok) {n : Nat} (hn : n < d.lies.length) {b : List UInt8} (hb : b.length = 1024) : (d.put n b).Ok :=
  ⟨h.pos, h.max, h.len, fun q hq => by
    rcases List.mem_append.1 hq with hq | hq
    · exact h.pg q hq
    · obtain rfl : q = (n, b) := by simpa using hq
      exact ⟨hn, hb⟩, h.f0, h.f1⟩
theorem writeUnd : Try.prog.underlying 80 = some (.struct (match Try.prog.underlying 80 with | some (.struct fs) => fs | _ => #[])) := by kernel_rfl
theorem Dk.asked_lies (d : Dk) : d.asked.lies = d.lies := by
  unfold Dk.asked
  split
  · rfl
  · split <;> rfl
theorem Dk.asked_pend (d : Dk) : d.asked.pend = d.pend := by
  unfold Dk.asked
  split
  · rfl
  · split <;> rfl
/-- the number of the write is noted -/
theorem DskM.noted {B : Nat} {u : World} {D L T : Nat} {v : Value} {f : List Nat} {d : Dk} {n : Nat} {b : List UInt8} (h : DskM B u D L T v f (d.put n b)) (hl : ∀ k x, f[k]? = some x → Lst d.pend k x) :
    DskX B (u.setCell ⟨T, n, none⟩ (.int .i64 (((d.pend.length + 1 : Nat)) : Int))) D L T v (f.set n (d.pend.length + 1)) (d.put n b) := by
  have ho : ∀ k, k ≠ T → (u.setCell ⟨T, n, none⟩ (.int .i64 (((d.pend.length + 1 : Nat)) : Int))).heap[k]? = u.heap[k]? := fun k hk => Deep.blk_setCell_other u ⟨T, n, none⟩ _ k hk
  refine ⟨{ h with
    blk := (ho D h.dt).trans h.blk
    lies := (ho L h.lt).trans h.lies
    last := by rw [heapCell_same h.last]; congr 2; simp [nums, List.map_set]
    pend := ownsRow_keep h.pend fun k hk => ho k (fun e => h.vt (e ▸ hk))
    flen := by rw [List.length_set]; exact h.flen }, fun k x hx => ?_⟩
  show Lst (d.pend ++ [(n, b)]) k x
  rw [List.getElem?_set] at hx
  by_cases hk : n = k
  · rw [if_pos hk] at hx
    subst hk
    split at hx
    · cases hx; exact Lst.put_same _ _ _
    · cases hx
  · rw [if_neg hk] at hx
    exact (hl k x hx).put_other hk b
section
variable {B : Nat} {u : World} {D L T : Nat} {v : Value} {f : List Nat} {d : Dk}
set_option maxRecDepth 100000 in
set_option maxHeartbeats 2000000 in
theorem kWriteOk (h : DskX B u D L T v f d) (hB : B ≤ u.heap.size) (n : Nat) (hn : n < d.lies.length) (hoff : d.off = false) (hfu : d.fuse ≠ 0) (hm : d.pend.length ≤ 1000000000) (bg bo bc : Nat) (bs : List UInt8) (hbs : bs.length = 1024) (hr : u.rangeAt bg bo (byteCells bs)) (hbD : bg ≠ D) :
    Calls Try.prog 13 #[.pointer (some ⟨D, 0, none⟩), .int .i64 (n : Int), .slice (some ⟨bg, bo, none⟩) 1024 bc] u fun e u' => e = .returned (.int .i64 0) ∧
      ∃ v' f', DskX B u' D L T v' f' (d.asked.put n bs) ∧ (v'.ownBlock = v.ownBlock ∨ ∃ g, v'.ownBlock = some g ∧ u.heap.size ≤ g) ∧ UpS u u' (D :: L :: T :: v.ownBlock.toList) := by
  have hk := kRefused h (n : Int)
  have e0 : d.refused (n : Int) = 0 := by rw [Dk.refused, hoff, if_neg (by decide), if_pos ⟨by omega, by omega⟩]
  rw [e0] at hk
  have hka := kAsk h
  rw [if_neg hfu] at hka
  have hbgu : bg < u.heap.size := by
    have := World.block_lt_of_cell? u _ (hr 0 (.int .u8 ((bs[0]'(by omega)).toNat : Int)) (by rw [bcells_at bs 0 (by omega)]))
    exact this
  have HH := hide h
  have HP : Hid (n < d.lies.length ∧ d.pend.length ≤ 1000000000 ∧ bs.length = 1024 ∧ u.rangeAt bg bo (byteCells bs) ∧ bg ≠ D ∧ B ≤ u.heap.size ∧ bg < u.heap.size) := ⟨hn, hm, hbs, hr, hbD, hB, hbgu⟩
  have hbld := wBuild n
  clear h e0 hfu hoff hn hm hbs hr hbD hB hbgu
  go_enter Try.func13, Try.ntmps13
  go_wp2_with fail
  refine hk.mono ?_
  rintro e w1 ⟨rfl, hw⟩
  obtain rfl := hw.symm
  clear hw hk
  go_wp2_with fail
  refine hka.mono ?_
  rintro e u1 ⟨rfl, hd1, hup1⟩
  clear hka
  obtain ⟨N, hN⟩ : ∃ N, N = u1.heap.size := ⟨_, rfl⟩
  have HN := hide hN
  have HD1 := hide hd1
  have HU1 := hide hup1
  clear hN hd1 hup1
  have HC0 : Hid ((wCells (n, zeros 1024)).toArray.size = 1025 ∧ (wCells (n, zeros 1024)).toArray.all (·.oneCell') = true) := ⟨by rw [List.size_toArray]; exact wCells_len _ (List.length_replicate ..), all_oneCell_toArray (wCells_one _)⟩
  have HCP := hide (fun (W : World) hh hr => wCopy W N bg bo n bc bs (unhide HP).2.2.1 hh hr)
  obtain ⟨C0, hC0⟩ : ∃ C, C = (wCells (n, zeros 1024)).toArray := ⟨_, rfl⟩
  rw [← hC0] at hbld HC0
  have HBT := hide hbld
  clear hbld
  have HE0 := hide hC0
  clear hC0
  go_wp2_with (first
    | (refine wpList_buildTo (by rfl) 80 _ (by rfl) (some 25) (by rfl) C0 (by simp only [List.map_toArray, List.map_cons, List.map_nil]; exact unhide HBT) ?_; simp only [Act.put, List.setIfInBounds_toArray, List.set_cons_zero, List.set_cons_succ])
    | (refine wpList_alloc_row (by rfl) 80 (by rfl) (some 9) (by rfl) N (by exact (unhide HN).symm) (wCells (0, zeros 1024)).toArray wZero ?_; intro W1 HX1 HB1 HS1; simp only [Act.put, List.setIfInBounds_toArray, List.set_cons_zero, List.set_cons_succ])
    | (refine wpList_store_row (by rfl) 80 (.tmp 9) (.tmp 25) (by rfl) N C0 (by rfl) (by rfl) 80 _ (unhide HX1) (by rw [(unhide HC0).1]; exact writeInfo) (by rw [(unhide HC0).1, List.size_toArray]; exact wCells_len _ (List.length_replicate ..)) (unhide HC0).2 ?_
       have HX2 := hide (heapRow_same (unhide HX1) C0)
       have HB2 := hide (belowRow (unhide HB1) (Nat.le_refl N) C0)
       have HS2 : Hid ((W1.setRow N C0).heap.size = N + 1) := (show (W1.setRow N C0).heap.size = N + 1 from by rw [← unhide HS1]; simp [World.setRow])
       generalize W1.setRow N C0 = W2 at *
       have hcp := unhide HCP W2 (by rw [unhide HX2, unhide HE0]) (fun j x hx => ((unhide HB2).cell (p := ⟨bg, bo + j, none⟩) (by show bg < N; have := unhide HN; have := (unhide HU1).size; have := (unhide HP).2.2.2.2.2.2; omega)).trans (((unhide HU1).cell (p := ⟨bg, bo + j, none⟩) (unhide HP).2.2.2.2.2.2 (by simpa using (unhide HP).2.2.2.2.1)).trans ((unhide HP).2.2.2.1 j x hx)))
       have HX3 := hide (heapRow_same (unhide HX2) (wCells (n, bs)).toArray)
       have HB3 := hide (belowRow (unhide HB2) (Nat.le_refl N) (wCells (n, bs)).toArray)
       have HS3 : Hid ((W2.setRow N (wCells (n, bs)).toArray).heap.size = N + 1) := (show (W2.setRow N (wCells (n, bs)).toArray).heap.size = N + 1 from by rw [← unhide HS2]; simp [World.setRow])
       generalize W2.setRow N (wCells (n, bs)).toArray = W3 at *
       have hsp := slPage N 1
       simp only [Act.put])
    | (refine copy_to (by rfl) (.tmp 27) (.tmp 28) 28 28 (by rfl) _ _ (by rfl) (by rfl) 3 (by rfl) _ _ hcp (some 29) (by rfl) ?_; clear hcp HX1 HB1 HS1 HX2 HB2 HS2; simp only [Act.put, List.setIfInBounds_toArray, List.set_cons_zero, List.set_cons_succ]))
  clear hsp HBT HC0 HCP HE0
  obtain ⟨i0, z0, hi, hz0, hz1, hz2, hz3⟩ := wInfo
  obtain ⟨C2, hC2⟩ : ∃ C, C = (wCells (n, bs)).toArray := ⟨_, rfl⟩
  have HC2 : Hid (C2.size = 1025 ∧ C2.toList = wCells (n, bs)) := by rw [hC2]; exact ⟨by rw [List.size_toArray]; exact wCells_len _ (unhide HP).2.2.1, rfl⟩
  rw [← hC2] at HX3
  clear hC2
  have HD3 := hide ((unhide HD1).below (by rw [← unhide HN]; exact unhide HB3))
  have hDN : D < N := by have := (unhide HD1).lt_of; have := unhide HN; omega
  have hBN : B ≤ N := by have := unhide HN; have := (unhide HU1).size; have := (unhide HP).2.2.2.2.2.1; omega
  have HLD : Hid (∀ u : World, u.rangeAt N 0 C2.toList → (Instr.loadAt 80 (.pointer (some ⟨N, 0, none⟩))).run Try.prog u = .ok (.agg C2) u) := by
    intro u hu
    have := run_loadAt_mid (P := Try.prog) u N 0 80 C2.toList _ hu writeUnd rfl (by rw [Array.length_toList, (unhide HC2).1]; exact writeInfo)
    rw [this, Array.toArray_toList]
  have HBS := hide (fun W : World => mk_one (P := Try.prog) (W := W) (s := 1025) (by decide) (by decide) writesUnd hi hz0 hz1 C2 (unhide HC2).1)
  have hrN : W3.rangeAt N 0 C2.toList := fun j x hx => by rw [Nat.zero_add, cell_of_row W3 N j _ _ _ (unhide HX3)]; simpa using hx
  have HA0 : Hid (W3.drew.cell? ⟨D, 1, none⟩ = some v ∧ W3.drew.frozen? ⟨D, 1, none⟩ = false ∧ W3.drew.rangeAt N 0 C2.toList) := ⟨(unhide HD3).c1, (unhide HD3).fz 1, hrN⟩
  have hsz3 : W3.drew.heap.size = N + 1 := unhide HS3
  have HA1 : Hid ((W3.drew.alloc (.cells C2 80)).cell? ⟨D, 1, none⟩ = some v ∧ (W3.drew.alloc (.cells C2 80)).frozen? ⟨D, 1, none⟩ = false ∧ (W3.drew.alloc (.cells C2 80)).rangeAt N 0 C2.toList) :=
    ⟨by rw [World.cell?_alloc_lt _ _ _ (by show D < W3.drew.heap.size; omega)]; exact (unhide HA0).1, by rw [World.frozen?_alloc_past _ _ _ (by show D < W3.drew.heap.size; omega)]; exact (unhide HA0).2.1, World.rangeAt_alloc (unhide HA0).2.2 _⟩
  have HDA := hide ((unhide HD3).below (u' := W3.drew.alloc (.cells C2 80)) ⟨rfl, rfl, rfl, by simp, fun k hk => Deep.blk_alloc_lt W3.drew _ k hk⟩)
  have hszA : (W3.drew.alloc (.cells C2 80)).heap.size = N + 2 := by
    have : (W3.drew.alloc (.cells C2 80)).heap.size = W3.drew.heap.size + 1 := by simp
    omega
  have hrA : ∀ j x, C2.toList[j]? = some x → (W3.drew.alloc (.cells C2 80)).cell? ((⟨W3.drew.heap.size, 0, none⟩ : Addr).add j) = some x := fun j x hx => by
    rw [Addr.add_mid, Nat.zero_add, cell_of_row _ W3.drew.heap.size j _ _ _ (heap_alloc_new W3.drew _)]; simpa using hx
  have hown : (W3.drew.alloc (.cells C2 80)).ownsRow B 80 1025 v d.pend.length (pCells d.pend) := by have := (unhide HDA).pend; rwa [d.asked_pend] at this
  have HUA : Hid (UpS u (W3.drew.alloc (.cells C2 80)) (D :: L :: T :: v.ownBlock.toList)) :=
    (((unhide HU1).mono (fun x hx => .inl (by have hx' : x = D := by simpa using hx
                                              simp [hx']))).trans (UpS.ofBelow [] (by rw [← unhide HN]; exact unhide HB3)) (fun x hx => by cases hx)).drew.alloc _
  obtain ⟨v', W5, hrun, hown', hgrow, hnew⟩ := run_append_own' (P := Try.prog) (W3.drew.alloc (.cells C2 80)) B 67 67 80 i0 z0 1025 1032 writesUnd hi hz0 hz1 hz2 hz3 (by decide) v d.pend.length (pCells d.pend) hown ⟨W3.drew.heap.size, 0, none⟩ 1 1 C2.toList (by rw [Array.length_toList, (unhide HC2).1]) hrA (by rw [(unhide HC2).2]; exact wCells_one _) (by have := (unhide HP).2.1; simp only [maxLen]; omega) (by have := (unhide HP).2.1; omega) (by omega)
  have HRUN := hide hrun
  have hvlt : ∀ k, v.ownBlock = some k → k < N := fun k hk => by have := ((unhide HD1).pend.lt k hk).2; rw [unhide HN]; exact this
  have hD5 : W5.heap[D]? = (W3.drew.alloc (.cells C2 80)).heap[D]? := hgrow.block D (by omega) (fun e => (unhide HD1).vd e.symm)
  have hN5 : W5.heap[N]? = (W3.drew.alloc (.cells C2 80)).heap[N]? := hgrow.block N (by omega) (fun e => by have := hvlt N e.symm; omega)
  have HS5 : Hid (W5.cell? ⟨D, 1, none⟩ = some v ∧ W5.frozen? ⟨D, 1, none⟩ = false ∧ W5.rangeAt N 0 C2.toList) :=
    ⟨(World.cell?_of_block (a := ⟨D, 1, none⟩) hD5).trans (unhide HA1).1, (World.frozen?_of_block (a := ⟨D, 1, none⟩) hD5).trans (unhide HA1).2.1, fun j x hx => (World.cell?_of_block (a := ⟨N, 0 + j, none⟩) hN5).trans ((unhide HA1).2.2 j x hx)⟩
  have hlt := (unhide HD1).lt_of
  have hNe := unhide HN
  have hvD : v'.ownBlock ≠ some D := fun e => hnew.elim (fun h' => (unhide HD1).vd (h' ▸ e)) (fun ⟨g, h1, h2⟩ => by rw [e] at h1; cases h1; omega)
  have hvL : v'.ownBlock ≠ some L := fun e => hnew.elim (fun h' => (unhide HD1).vl (h' ▸ e)) (fun ⟨g, h1, h2⟩ => by rw [e] at h1; cases h1; omega)
  have hvT : v'.ownBlock ≠ some T := fun e => hnew.elim (fun h' => (unhide HD1).vt (h' ▸ e)) (fun ⟨g, h1, h2⟩ => by rw [e] at h1; cases h1; omega)
  have hL5 : W5.heap[L]? = (W3.drew.alloc (.cells C2 80)).heap[L]? := hgrow.block L (by omega) (fun e => (unhide HD1).vl e.symm)
  have hT5 : W5.heap[T]? = (W3.drew.alloc (.cells C2 80)).heap[T]? := hgrow.block T (by omega) (fun e => (unhide HD1).vt e.symm)
  have hoth : ∀ k, k ≠ D → (W5.setCell ⟨D, 1, none⟩ v').heap[k]? = W5.heap[k]? := fun k hk => Deep.blk_setCell_other W5 ⟨D, 1, none⟩ _ k hk
  have HM6 : Hid (DskM B (W5.setCell ⟨D, 1, none⟩ v') D L T v' f (d.asked.put n bs)) := by
    have hd := unhide HDA
    exact ⟨by rw [heapCell_same (hD5.trans hd.blk)]; rfl, (hoth L (Ne.symm hd.dl)).trans (hL5.trans hd.lies), (hoth T (Ne.symm hd.dt)).trans (hT5.trans hd.last),
      (by
        show (W5.setCell ⟨D, 1, none⟩ v').ownsRow B 80 1025 v' (d.asked.pend ++ [(n, bs)]).length (pCells (d.asked.pend ++ [(n, bs)]))
        rw [pCells_append, d.asked_pend, List.length_append, show pCells [(n, bs)] = wCells (n, bs) from by simp [pCells], ← (unhide HC2).2]
        exact ownsRow_keep hown' fun k hk => hoth k (fun e => hvD (e ▸ hk))),
      hd.flen, hd.bD, hd.bL, hd.bT, hd.dl, hd.dt, hd.lt, hvD, hvL, hvT, hd.ok.put (by rw [d.asked_lies]; exact (unhide HP).1) (unhide HP).2.2.1⟩
  have HLS := hide (unhide HD1).lst
  have HU6 : Hid (UpS u (W5.setCell ⟨D, 1, none⟩ v') (D :: L :: T :: v.ownBlock.toList)) := ((unhide HUA).trans (UpS.ofGrown (F := v.ownBlock.toList) hgrow (fun k hk => .inl (by simp [hk]))) (fun x hx => .inl (by simp [hx]))).setCell (.inl (by simp)) _
  have HNW : Hid (v'.ownBlock = v.ownBlock ∨ ∃ g, v'.ownBlock = some g ∧ u.heap.size ≤ g) := hnew.imp id (fun ⟨g, h1, h2⟩ => ⟨g, h1, by have := (unhide HU1).size; omega⟩)
  obtain ⟨ao', c', hv'⟩ := ownsRow_len hown'
  have hone : v'.oneCell' = true := by rw [hv']; rfl
  clear hgrow hrun hnew hown hown' hoth hL5 hT5 hD5 hN5 hrA hrN hvD hvL hvT HD3 HDA HUA hvlt
  refine wp_region_last (fun u => u.cell? ⟨D, 1, none⟩ = some v ∧ u.frozen? ⟨D, 1, none⟩ = false ∧ u.rangeAt N 0 C2.toList) 10 (by kernel_rfl) (unhide HA0) fun hS => ?_
  refine wpAnyL_take 0 30 (.pointer (some ⟨D, 0, none⟩)) [] rfl rfl (by kernel_rfl) (by kernel_rfl) (by kernel_rfl) (by kernel_rfl) (by kernel_rfl) (fun _ _ _ h => h) (by rfl) (fun u _ => by go_simp) hS ?_
  simp only [Act.put, List.setIfInBounds_toArray, List.set_cons_zero, List.set_cons_succ]
  refine wpAnyL_take 1 31 (.pointer (some ⟨D, 0, none⟩)) [] rfl rfl (by kernel_rfl) (by kernel_rfl) (by kernel_rfl) (by kernel_rfl) (by kernel_rfl) (fun _ _ _ h => h) (by rfl) (fun u _ => by go_simp) hS ?_
  simp only [Act.put, List.setIfInBounds_toArray, List.set_cons_zero, List.set_cons_succ]
  refine wpAnyL_take 2 32 (.pointer (some ⟨D, 0, none⟩)) [] rfl rfl (by kernel_rfl) (by kernel_rfl) (by kernel_rfl) (by kernel_rfl) (by kernel_rfl) (fun _ _ _ h => h) (by rfl) (fun u _ => by go_simp) hS ?_
  simp only [Act.put, List.setIfInBounds_toArray, List.set_cons_zero, List.set_cons_succ]
  refine wpAnyL_take 3 33 (.pointer (some ⟨D, 1, none⟩)) [] rfl rfl (by kernel_rfl) (by kernel_rfl) (by kernel_rfl) (by kernel_rfl) (by kernel_rfl) (fun _ _ _ h => h) (by rfl) (fun u _ => by go_simp) hS ?_
  simp only [Act.put, List.setIfInBounds_toArray, List.set_cons_zero, List.set_cons_succ]
  refine wpAnyL_take 4 34 (v) [] rfl rfl (by kernel_rfl) (by kernel_rfl) (by kernel_rfl) (by kernel_rfl) (by kernel_rfl) (fun _ _ _ h => h) (by rfl) (fun u hu => by obtain ⟨s1, s2, s3⟩ := hu; go_simp) hS ?_
  simp only [Act.put, List.setIfInBounds_toArray, List.set_cons_zero, List.set_cons_succ]
  refine wpAnyL_take 5 35 (.agg C2) [] rfl rfl (by kernel_rfl) (by kernel_rfl) (by kernel_rfl) (by kernel_rfl) (by kernel_rfl) (fun _ _ _ h => h) (by rfl) (fun u hu => by obtain ⟨s1, s2, s3⟩ := hu; show Sem.run _ (do pure (Next.value (← Instr.loadAt 80 (.pointer (some ⟨N, 0, none⟩))))) u = _; simp only [Sem.run_bind, unhide HLD u s3, Result.andThen_ok, Sem.run_pure]) hS ?_
  simp only [Act.put, List.setIfInBounds_toArray, List.set_cons_zero, List.set_cons_succ]
  refine wpAnyL_one (i := 6) (by kernel_rfl) rfl (by rfl) fun K hK => ?_
  refine wp_buildTo (by rfl) _ _ (by simp only [List.map_toArray, List.map_cons, List.map_nil]; exact unhide HBS _) (some 36) (by rfl) ?_
  refine hK _ _ (fun _ => ⟨(unhide HA1).1, (unhide HA1).2.1, (unhide HA1).2.2⟩) ?_
  clear hK K hS
  have hS := unhide HA1
  simp only [Act.put, List.setIfInBounds_toArray, List.set_cons_zero, List.set_cons_succ]
  refine wpAnyL_one (i := 7) (by kernel_rfl) rfl (by rfl) fun K hK => ?_
  refine wp_append_to _ (.tmp 34) (.tmp 36) 67 67 rfl (some 37) rfl 67 rfl _ _ rfl rfl v' W5 (unhide HRUN) ?_
  refine hK _ _ (fun _ => unhide HS5) ?_
  clear hK K hS
  have hS := unhide HS5
  simp only [Act.put, List.setIfInBounds_toArray, List.set_cons_zero, List.set_cons_succ]
  refine wpAnyL_take 8 38 (.pointer (some ⟨D, 0, none⟩)) [9] rfl rfl (by kernel_rfl) (by kernel_rfl) (by kernel_rfl) (by kernel_rfl) (by kernel_rfl) (fun _ _ _ h => h) (by rfl) (fun u _ => by go_simp) hS ?_
  simp only [Act.put, List.setIfInBounds_toArray, List.set_cons_zero, List.set_cons_succ]
  refine wpAnyL_take 9 39 (.pointer (some ⟨D, 1, none⟩)) [] rfl rfl (by kernel_rfl) (by kernel_rfl) (by kernel_rfl) (by kernel_rfl) (by kernel_rfl) (fun _ _ _ h => h) (by rfl) (fun u _ => by go_simp) hS ?_
  simp only [Act.put, List.setIfInBounds_toArray, List.set_cons_zero, List.set_cons_succ]
  refine wpAnyL_one (i := 10) (by kernel_rfl) rfl (by rfl) fun K hK => ?_
  obtain ⟨s1, s2, s3⟩ := hS
  go_simp
  refine hK _ _ (fun h => absurd rfl h) ?_
  clear hK K
  refine wpAnyL_done (by kernel_rfl) ?_ _
  subst hv'
  have h6 := unhide HM6
  have c1 := h6.c1
  have c2 := h6.c2
  have hll : (d.asked.put n bs).lies.length = d.lies.length := by rw [← d.asked_lies]; rfl
  obtain ⟨x, hx, ct⟩ := h6.last_at n (by rw [hll]; exact (unhide HP).1)
  have zt : (W5.setCell ⟨D, 1, none⟩ (.slice ao' (d.pend.length + 1) c')).frozen? ⟨T, n, none⟩ = false := by simp [World.frozen?, h6.last]
  have hnl : (n : Int) < (d.lies.length : Int) := by have := (unhide HP).1; omega
  rw [hll] at c2
  clear hll hx h6 hlt hNe HS5 HRUN hsz3 hszA HA0 HA1 HBS HLD s1 s2 s3 hone hDN hBN HB3 HS3 HX3 HN HD1 HU1 HC2 hi hz0 hz1 hz2 hz3
  obtain ⟨M, hM⟩ : ∃ M, M = d.pend.length + 1 := ⟨_, rfl⟩
  rw [← hM] at c1 c2 ct zt HM6 HU6 HNW
  rw [← hM]
  have HE := hide hM
  clear hM
  generalize W5.setCell ⟨D, 1, none⟩ (.slice ao' M c') = W6 at *
  clear W5
  go_wp2
  go_region
  all_goals
    go_wp2
    go_ret
    refine ⟨rfl, _, f.set n (d.pend.length + 1), ?_, unhide HNW, ?_⟩
    · have := (unhide HM6).noted (d := d.asked) (by rw [d.asked_pend]; have := unhide HLS; rwa [d.asked_pend] at this)
      rw [d.asked_pend, ← unhide HE] at this
      rw [← unhide HE]
      exact this.keep fun _ _ => rfl
    · exact ((unhide HU6).setCell (.inl (by simp)) _).drew
end
end Go.Proofs.Ytfdibmbffmgikaa
