/- The page: Decode. -/
import Derived.Test.YtfdfbjijomepgaaDoorPi
namespace Go.Proofs.YtfdfbjijomepgaaDoor
open Go.RowKit Go.Lib

def ZP : Array Value := #[.int .u8 0, .int .u32 0, .int .u64 0, .string ⟨#[]⟩]
theorem zeroPage : ((Tryd.prog.info? 70).bind (·.zero)).map (·.cells) = some #[.int .u8 0, .int .u32 0, .int .u64 0, .string ⟨#[]⟩] := by kernel_rfl
theorem results_cell_tmp {P : Program} {fn : Func} {p q : Tmp} {ty : TypeId} (h : fn.results = #[.cell p ty, .tmp q]) (tmps : Array Value) (w : World) (g : Nat) (t : TypeId) (cs : Array Value) (fr : Nat × Nat) (d : TypeDesc)
    (hp : tmps.getD p undef = .pointer (some ⟨g, 0, none⟩)) (hg : w.heap[g]? = some (.cells cs t fr))
    (hu : P.underlying ty = some d) (hd : (match d with | .struct _ | .array _ _ => true | _ => false) = true) (hi : (P.info? ty).map (·.size) = some cs.size) :
    (results fn tmps).run P w = .ok (.tuple #[.agg cs, tmps.getD q undef]) w := by
  have hp' : tmps[p]?.getD undef = .pointer (some ⟨g, 0, none⟩) := by simpa using hp
  simp [results, h, hp', asAddr, run_loadVar_row w g t ty cs fr d hg hu hd hi]
theorem page_one (a b c : Int) (s : ByteArray) : (#[.int .u8 a, .int .u32 b, .int .u64 c, .string s] : Array Value).all (·.oneCell') = true := by
  rw [Array.all_eq_true']
  intro v hv
  simp only [List.mem_toArray, List.mem_cons, List.not_mem_nil, or_false] at hv
  rcases hv with rfl | rfl | rfl | rfl <;> rfl
/-- behind the claim: the answer's place, the bytes, the page -/
structure De (N M : Nat) (w u : World) (A cs : Array Value) : Prop where
  r : u.heap[N]? = some (.cells #[.int .u8 0, .int .u32 0, .int .u64 0, .string ⟨#[]⟩] 70 (0, 0))
  l : u.heap[N + 1]? = some (.cells A 126 (0, 0))
  p : u.heap[M]? = some (.cells cs 70 (0, 0))
  ge : N + 1 < M
  bel : Below N w u
theorem De.below {N M : Nat} {w u u' : World} {A cs : Array Value} (h : De N M w u A cs) (hb : Below u.heap.size u u') : De N M w u' A cs := by
  have hp := (Array.getElem?_eq_some_iff.1 h.p).1
  have hg := h.ge
  exact ⟨(hb.block N (by omega)).trans h.r, (hb.block (N + 1) (by omega)).trans h.l, (hb.block M hp).trans h.p, h.ge, h.bel.trans (hb.mono (by omega))⟩
theorem De.drewN {N M : Nat} {w u : World} {A cs : Array Value} (h : De N M w u A cs) (c : Nat) : De N M w (u.drewN c) A cs := h.below ⟨rfl, rfl, rfl, Nat.le_refl _, fun _ _ => rfl⟩
theorem De.drew {N M : Nat} {w u : World} {A cs : Array Value} (h : De N M w u A cs) : De N M w u.drew A cs := h.below ⟨rfl, rfl, rfl, Nat.le_refl _, fun _ _ => rfl⟩
theorem row_range {u : World} {g : Nat} {A : Array Value} {t : TypeId} (h : u.heap[g]? = some (.cells A t (0, 0))) : u.rangeAt g 0 A.toList := fun j v hv => by
  rw [Nat.zero_add, cellOf h, ← Array.getElem?_toList]
  exact hv
theorem zp_one : (#[.int .u8 0, .int .u32 0, .int .u64 0, .string ⟨#[]⟩] : Array Value).all (·.oneCell') = true := page_one 0 0 0 ⟨#[]⟩
theorem pageInfo : (Tryd.prog.info? 70).map (·.size) = some 4 := by kernel_rfl
theorem zeroVal (w : World) : (zeroValue 126).run Tryd.prog w = .ok (.agg (img (zeros 1024))) w := by
  have h : (Tryd.prog.info? 126).bind (·.zero) = some (.agg (img (zeros 1024))) := by kernel_rfl
  cases hq : Tryd.prog.info? 126 with
  | none => simp [hq] at h
  | some i => rw [hq] at h; simp only [Option.bind] at h; simp [zeroValue, typeInfo, hq, h]
theorem img_range {u : World} {g : Nat} {l : List UInt8} {t : TypeId} (h : u.heap[g]? = some (.cells (img l) t (0, 0))) : u.rangeAt g 0 (img l).toList := fun j v hv => by
  rw [Nat.zero_add, cellOf h, ← Array.getElem?_toList]
  exact hv

set_option maxRecDepth 100000 in
set_option maxHeartbeats 4000000 in
theorem pDecodeBlank (l : List UInt8) (hl : l.length = 1024) (g o cap : Nat) (num : Nat) (w : World) (hg : g < w.heap.size) (hr : w.rangeAt g o (img l).toList) (hb : l = zeros 1024) :
    Calls Tryd.prog 40 #[.slice (some ⟨g, o, none⟩) 1024 cap, .int .u32 (num : Int)] w fun e w' => e = .returned (.tuple #[.agg #[.int .u8 0, .int .u32 0, .int .u64 0, .string ⟨#[]⟩], .int .i64 51]) ∧ Below w.heap.size w w' := by
  obtain ⟨N, hN⟩ : ∃ N, N = w.heap.size := ⟨_, rfl⟩
  have HN := hide hN
  rw [← hN] at hg ⊢
  have HIM : Hid ((Tryd.prog.info? 126).map (·.size) = some (img l).size) := by show _ = _; rw [img_size, hl]; exact imgInfo
  have HSZ : Hid ((img (zeros 1024)).size = (img l).size) := by show _ = _; rw [img_size, img_size, hl]; rfl
  have HON := hide (img_one l)
  have heq := fun W => eqImg l (zeros 1024) hl (by rw [zeros, List.length_replicate]) W
  rw [decide_eq_true hb] at heq
  have HCLa := hide (fun u => pClaimed l hl u)
  have HLA := hide hr
  have HGL := hide hg
  have hzv := fun (W : World) => zeroVal W
  have HZI := hide zeroImg
  have HIR := hide (fun (u : World) (L : Nat) (h : u.heap[L]? = some (.cells (img l) 126 (0, 0))) => img_range h)
  have hta := run_toArr ⟨g, o, none⟩ cap
  clear hb
  generalize img l = A at *
  generalize img (zeros 1024) = Z at *
  clear hN hr hl
  go_enter Tryd.func40, Tryd.ntmps40
  go_wp2_with (first
    | (refine wpList_alloc_row (by rfl) 70 (by rfl) (some 4) (by rfl) N (by exact (unhide HN).symm) _ zeroPage ?_; intro W1 HX1 HB1 HS1; simp only [Act.put, List.setIfInBounds_toArray, List.set_cons_zero, List.set_cons_succ])
    | (refine wpList_load_mid (by rfl) 126 (.tmp 13) (by rfl) g o (by rfl) A.toList _ (fun j v hv => ((unhide HB1).cell (p := ⟨g, o + j, none⟩) (unhide HGL)).trans (unhide HLA j v hv)) Tryd.underlying126 (by rfl) (by simpa using unhide HIM) ?_; simp only [Act.put, List.setIfInBounds_toArray, List.set_cons_zero, List.set_cons_succ, Array.toArray_toList])
    | (refine wpList_alloc_row (by rfl) 126 (by rfl) (some 6) (by rfl) (N + 1) (by exact unhide HS1) Z (unhide HZI) ?_; intro W2 HX2 HB2 HS2; simp only [Act.put, List.setIfInBounds_toArray, List.set_cons_zero, List.set_cons_succ])
    | (refine wpList_store_hid (by rfl) 126 (.tmp 6) (.tmp 14) (by rfl) (N + 1) A (by rfl) (by rfl) 126 Z (unhide HX2) (unhide HIM) (unhide HSZ) (unhide HON) ?_; intro W3 HX3 HE3; simp only [Act.put])
    | (refine wpList_load_mid (by rfl) 126 (.tmp 6) (by rfl) (N + 1) 0 (by rfl) A.toList _ (unhide HIR W3 (N + 1) (unhide HX3)) Tryd.underlying126 (by rfl) (by simpa using unhide HIM) ?_; simp only [Act.put, List.setIfInBounds_toArray, List.set_cons_zero, List.set_cons_succ, Array.toArray_toList])
    | (refine wpList_store_hid (by rfl) 70 (.tmp 4) (.tmp 18) (by rfl) N #[.int .u8 0, .int .u32 0, .int .u64 0, .string ⟨#[]⟩] (by rfl) (by rfl) 70 _ (by rw [unhide HE3, heapRow_other _ _ _ _ (by omega)]; exact ((unhide HB2).block N (by omega)).trans (unhide HX1)) pageInfo (by rfl) zp_one ?_; intro W4 HX4 HE4; simp only [Act.put]))
  refine bodyPost_ret (results_cell_tmp rfl _ _ N 70 #[.int .u8 0, .int .u32 0, .int .u64 0, .string ⟨#[]⟩] (0, 0) _ rfl (unhide HX4) Tryd.underlying70 rfl pageInfo) rfl ?_
  refine ⟨rfl, ?_⟩
  rw [unhide HE4, unhide HE3]
  exact belowRow (belowRow ((unhide HB1).trans ((unhide HB2).mono (by omega))) (by omega) _) (by omega) _
set_option maxRecDepth 100000 in
set_option maxHeartbeats 4000000 in
theorem pDecodeNum (l : List UInt8) (hl : l.length = 1024) (g o cap : Nat) (num : Nat) (w : World) (hg : g < w.heap.size) (hr : w.rangeAt g o (img l).toList) (hb : l ≠ zeros 1024) (hn : (claim ⟨l.toArray⟩).num ≠ num) :
    Calls Tryd.prog 40 #[.slice (some ⟨g, o, none⟩) 1024 cap, .int .u32 (num : Int)] w fun e w' => e = .returned (.tuple #[.agg #[.int .u8 0, .int .u32 0, .int .u64 0, .string ⟨#[]⟩], .int .i64 50]) ∧ Below w.heap.size w w' := by
  have hCL := fun u => pClaimed l hl u
  rw [show (claim ⟨l.toArray⟩).cs = #[.int .u8 ((claim ⟨l.toArray⟩).kind : Int), .int .u32 ((claim ⟨l.toArray⟩).num : Int), .int .u64 ((claim ⟨l.toArray⟩).ser : Int), .string (claim ⟨l.toArray⟩).body] from rfl] at hCL
  generalize (claim ⟨l.toArray⟩).kind = kd at *
  generalize (claim ⟨l.toArray⟩).num = nm at *
  generalize (claim ⟨l.toArray⟩).ser = sr at *
  generalize (claim ⟨l.toArray⟩).body = bd at *
  have HCL0 := hide hCL
  clear hCL
  have hni : ¬ (nm : Int) = (num : Int) := by omega
  clear hn
  obtain ⟨N, hN⟩ : ∃ N, N = w.heap.size := ⟨_, rfl⟩
  have HN := hide hN
  rw [← hN] at hg ⊢
  have HIM : Hid ((Tryd.prog.info? 126).map (·.size) = some (img l).size) := by show _ = _; rw [img_size, hl]; exact imgInfo
  have HSZ : Hid ((img (zeros 1024)).size = (img l).size) := by show _ = _; rw [img_size, img_size, hl]; rfl
  have HON := hide (img_one l)
  have heq := fun W => eqImg l (zeros 1024) hl (by rw [zeros, List.length_replicate]) W
  rw [decide_eq_false hb] at heq
  have HCLa := hide (unhide HCL0)
  have HLA := hide hr
  have HGL := hide hg
  have hzv := fun (W : World) => zeroVal W
  have HZI := hide zeroImg
  have HIR := hide (fun (u : World) (L : Nat) (h : u.heap[L]? = some (.cells (img l) 126 (0, 0))) => img_range h)
  have hta := run_toArr ⟨g, o, none⟩ cap
  generalize img l = A at *
  generalize img (zeros 1024) = Z at *
  clear hN hr hl
  go_enter Tryd.func40, Tryd.ntmps40
  go_wp2_with (first
    | (refine wpList_alloc_row (by rfl) 70 (by rfl) (some 4) (by rfl) N (by exact (unhide HN).symm) _ zeroPage ?_; intro W1 HX1 HB1 HS1; simp only [Act.put, List.setIfInBounds_toArray, List.set_cons_zero, List.set_cons_succ])
    | (refine wpList_load_mid (by rfl) 126 (.tmp 13) (by rfl) g o (by rfl) A.toList _ (fun j v hv => ((unhide HB1).cell (p := ⟨g, o + j, none⟩) (unhide HGL)).trans (unhide HLA j v hv)) Tryd.underlying126 (by rfl) (by simpa using unhide HIM) ?_; simp only [Act.put, List.setIfInBounds_toArray, List.set_cons_zero, List.set_cons_succ, Array.toArray_toList])
    | (refine wpList_alloc_row (by rfl) 126 (by rfl) (some 6) (by rfl) (N + 1) (by exact unhide HS1) Z (unhide HZI) ?_; intro W2 HX2 HB2 HS2; simp only [Act.put, List.setIfInBounds_toArray, List.set_cons_zero, List.set_cons_succ])
    | (refine wpList_store_hid (by rfl) 126 (.tmp 6) (.tmp 14) (by rfl) (N + 1) A (by rfl) (by rfl) 126 Z (unhide HX2) (unhide HIM) (unhide HSZ) (unhide HON) ?_; intro W3 HX3 HE3; simp only [Act.put])
    | (refine wpList_load_mid (by rfl) 126 (.tmp 6) (by rfl) (N + 1) 0 (by rfl) A.toList _ (unhide HIR W3 (N + 1) (unhide HX3)) Tryd.underlying126 (by rfl) (by simpa using unhide HIM) ?_; simp only [Act.put, List.setIfInBounds_toArray, List.set_cons_zero, List.set_cons_succ, Array.toArray_toList]))
  refine (unhide HCLa _).mono ?_
  rintro e W5 ⟨rfl, hb5⟩
  obtain ⟨M, hM⟩ : ∃ M, M = W5.heap.size := ⟨_, rfl⟩
  have HM := hide hM
  have HB5 := hide hb5
  clear hM hb5
  go_wp2_with (first
    | (refine wpList_alloc_row (by rfl) 70 (by rfl) (some 7) (by rfl) M (by exact (unhide HM).symm) _ zeroPage ?_; intro W6 HX6 HB6 HS6; simp only [Act.put, List.setIfInBounds_toArray, List.set_cons_zero, List.set_cons_succ])
    | (refine wpList_store_hid (by rfl) 70 (.tmp 7) (.tmp 20) (by rfl) M #[.int .u8 (kd : Int), .int .u32 (nm : Int), .int .u64 (sr : Int), .string bd] (by rfl) (by rfl) 70 _ (unhide HX6) pageInfo (by rfl) (page_one _ _ _ _) ?_; intro W7 HX7 HE7; simp only [Act.put]))
  have HD : Hid (De N M w W7 A #[.int .u8 (kd : Int), .int .u32 (nm : Int), .int .u64 (sr : Int), .string bd]) := by
    have hM := unhide HM
    have h3 := unhide HE3
    have h5 := unhide HB5
    have hs3 : W3.heap.size = N + 1 + 1 := by rw [h3]; have := unhide HS2; simpa [World.setRow] using this
    have hle := h5.size
    rw [hs3] at h5 hle
    have h6 := unhide HB6
    refine ⟨?_, ?_, unhide HX7, by omega, ?_⟩
    · rw [unhide HE7, heapRow_other _ _ _ _ (by omega), h6.block N (by omega), h5.block N (by omega), h3, heapRow_other _ _ _ _ (by omega)]; exact ((unhide HB2).block N (by omega)).trans (unhide HX1)
    · rw [unhide HE7, heapRow_other _ _ _ _ (by omega), h6.block (N + 1) (by omega), h5.block (N + 1) (by omega)]; exact unhide HX3
    · have b3 : Below N w W3 := by rw [h3]; exact belowRow ((unhide HB1).trans ((unhide HB2).mono (by omega))) (by omega) _
      rw [unhide HE7]
      exact belowRow ((b3.trans (h5.mono (by omega))).trans (h6.mono (by omega))) (by omega) _
  clear HX1 HB1 HS1 HX2 HB2 HS2 HX3 HE3 HB5 HX6 HB6 HS6 HX7 HE7 HLA
  have x0 := cellOf (unhide HD).p 0
  have x1 := cellOf (unhide HD).p 1
  have x2 := cellOf (unhide HD).p 2
  have x3 := cellOf (unhide HD).p 3
  simp only [List.getElem?_toArray, List.getElem?_cons_zero, List.getElem?_cons_succ] at x0 x1 x2 x3
  clear heq hta hzv
  go_quiet (fail)
  have HDq := hide ((unhide HD).drewN nq)
  clear x0 x1 x2 x3 HD
  have HD := hide (unhide HDq)
  clear HDq
  generalize W7.drewN nq = W8 at *
  go_wp2_with (first
    | (refine wpList_store_hid (by rfl) 70 (.tmp 4) (.tmp 36) (by rfl) N #[.int .u8 0, .int .u32 0, .int .u64 0, .string ⟨#[]⟩] (by rfl) (by rfl) 70 _ (unhide HD).r pageInfo (by rfl) zp_one ?_; intro W9 HX9 HE9; simp only [Act.put]))
  refine bodyPost_ret (results_cell_tmp rfl _ _ N 70 #[.int .u8 0, .int .u32 0, .int .u64 0, .string ⟨#[]⟩] (0, 0) _ rfl (unhide HX9) Tryd.underlying70 rfl pageInfo) rfl ?_
  refine ⟨rfl, ?_⟩
  rw [unhide HE9]
  exact belowRow (unhide HD).bel (Nat.le_refl _) _
set_option maxRecDepth 100000 in
set_option maxHeartbeats 4000000 in
theorem pDecodeWrong (l : List UInt8) (hl : l.length = 1024) (g o cap : Nat) (num : Nat) (w : World) (hg : g < w.heap.size) (hr : w.rangeAt g o (img l).toList) (hb : l ≠ zeros 1024) (hn : (claim ⟨l.toArray⟩).num = num) (hw : (claim ⟨l.toArray⟩).wrong ≠ 0) :
    Calls Tryd.prog 40 #[.slice (some ⟨g, o, none⟩) 1024 cap, .int .u32 (num : Int)] w fun e w' => e = .returned (.tuple #[.agg #[.int .u8 0, .int .u32 0, .int .u64 0, .string ⟨#[]⟩], .int .i64 50]) ∧ Below w.heap.size w w' := by
  have hCL := fun u => pClaimed l hl u
  rw [show (claim ⟨l.toArray⟩).cs = #[.int .u8 ((claim ⟨l.toArray⟩).kind : Int), .int .u32 ((claim ⟨l.toArray⟩).num : Int), .int .u64 ((claim ⟨l.toArray⟩).ser : Int), .string (claim ⟨l.toArray⟩).body] from rfl] at hCL
  have hWr : ∀ u, Calls Tryd.prog 63 #[.agg #[.int .u8 ((claim ⟨l.toArray⟩).kind : Int), .int .u32 ((claim ⟨l.toArray⟩).num : Int), .int .u64 ((claim ⟨l.toArray⟩).ser : Int), .string (claim ⟨l.toArray⟩).body]] u fun e w' => e = .returned (.int .i64 (claim ⟨l.toArray⟩).wrong) ∧ Below u.heap.size u w' := fun u => pWrong (claim ⟨l.toArray⟩) u
  generalize (claim ⟨l.toArray⟩).wrong = r at *
  generalize (claim ⟨l.toArray⟩).kind = kd at *
  generalize (claim ⟨l.toArray⟩).num = nm at *
  generalize (claim ⟨l.toArray⟩).ser = sr at *
  generalize (claim ⟨l.toArray⟩).body = bd at *
  have HCL0 := hide hCL
  clear hCL
  subst hn
  have HWr := hide hWr
  have hrn : ¬ r = 0 := hw
  clear hWr hw
  obtain ⟨N, hN⟩ : ∃ N, N = w.heap.size := ⟨_, rfl⟩
  have HN := hide hN
  rw [← hN] at hg ⊢
  have HIM : Hid ((Tryd.prog.info? 126).map (·.size) = some (img l).size) := by show _ = _; rw [img_size, hl]; exact imgInfo
  have HSZ : Hid ((img (zeros 1024)).size = (img l).size) := by show _ = _; rw [img_size, img_size, hl]; rfl
  have HON := hide (img_one l)
  have heq := fun W => eqImg l (zeros 1024) hl (by rw [zeros, List.length_replicate]) W
  rw [decide_eq_false hb] at heq
  have HCLa := hide (unhide HCL0)
  have HLA := hide hr
  have HGL := hide hg
  have hzv := fun (W : World) => zeroVal W
  have HZI := hide zeroImg
  have HIR := hide (fun (u : World) (L : Nat) (h : u.heap[L]? = some (.cells (img l) 126 (0, 0))) => img_range h)
  have hta := run_toArr ⟨g, o, none⟩ cap
  generalize img l = A at *
  generalize img (zeros 1024) = Z at *
  clear hN hr hl
  go_enter Tryd.func40, Tryd.ntmps40
  go_wp2_with (first
    | (refine wpList_alloc_row (by rfl) 70 (by rfl) (some 4) (by rfl) N (by exact (unhide HN).symm) _ zeroPage ?_; intro W1 HX1 HB1 HS1; simp only [Act.put, List.setIfInBounds_toArray, List.set_cons_zero, List.set_cons_succ])
    | (refine wpList_load_mid (by rfl) 126 (.tmp 13) (by rfl) g o (by rfl) A.toList _ (fun j v hv => ((unhide HB1).cell (p := ⟨g, o + j, none⟩) (unhide HGL)).trans (unhide HLA j v hv)) Tryd.underlying126 (by rfl) (by simpa using unhide HIM) ?_; simp only [Act.put, List.setIfInBounds_toArray, List.set_cons_zero, List.set_cons_succ, Array.toArray_toList])
    | (refine wpList_alloc_row (by rfl) 126 (by rfl) (some 6) (by rfl) (N + 1) (by exact unhide HS1) Z (unhide HZI) ?_; intro W2 HX2 HB2 HS2; simp only [Act.put, List.setIfInBounds_toArray, List.set_cons_zero, List.set_cons_succ])
    | (refine wpList_store_hid (by rfl) 126 (.tmp 6) (.tmp 14) (by rfl) (N + 1) A (by rfl) (by rfl) 126 Z (unhide HX2) (unhide HIM) (unhide HSZ) (unhide HON) ?_; intro W3 HX3 HE3; simp only [Act.put])
    | (refine wpList_load_mid (by rfl) 126 (.tmp 6) (by rfl) (N + 1) 0 (by rfl) A.toList _ (unhide HIR W3 (N + 1) (unhide HX3)) Tryd.underlying126 (by rfl) (by simpa using unhide HIM) ?_; simp only [Act.put, List.setIfInBounds_toArray, List.set_cons_zero, List.set_cons_succ, Array.toArray_toList]))
  refine (unhide HCLa _).mono ?_
  rintro e W5 ⟨rfl, hb5⟩
  obtain ⟨M, hM⟩ : ∃ M, M = W5.heap.size := ⟨_, rfl⟩
  have HM := hide hM
  have HB5 := hide hb5
  clear hM hb5
  go_wp2_with (first
    | (refine wpList_alloc_row (by rfl) 70 (by rfl) (some 7) (by rfl) M (by exact (unhide HM).symm) _ zeroPage ?_; intro W6 HX6 HB6 HS6; simp only [Act.put, List.setIfInBounds_toArray, List.set_cons_zero, List.set_cons_succ])
    | (refine wpList_store_hid (by rfl) 70 (.tmp 7) (.tmp 20) (by rfl) M #[.int .u8 (kd : Int), .int .u32 (nm : Int), .int .u64 (sr : Int), .string bd] (by rfl) (by rfl) 70 _ (unhide HX6) pageInfo (by rfl) (page_one _ _ _ _) ?_; intro W7 HX7 HE7; simp only [Act.put]))
  have HD : Hid (De N M w W7 A #[.int .u8 (kd : Int), .int .u32 (nm : Int), .int .u64 (sr : Int), .string bd]) := by
    have hM := unhide HM
    have h3 := unhide HE3
    have h5 := unhide HB5
    have hs3 : W3.heap.size = N + 1 + 1 := by rw [h3]; have := unhide HS2; simpa [World.setRow] using this
    have hle := h5.size
    rw [hs3] at h5 hle
    have h6 := unhide HB6
    refine ⟨?_, ?_, unhide HX7, by omega, ?_⟩
    · rw [unhide HE7, heapRow_other _ _ _ _ (by omega), h6.block N (by omega), h5.block N (by omega), h3, heapRow_other _ _ _ _ (by omega)]; exact ((unhide HB2).block N (by omega)).trans (unhide HX1)
    · rw [unhide HE7, heapRow_other _ _ _ _ (by omega), h6.block (N + 1) (by omega), h5.block (N + 1) (by omega)]; exact unhide HX3
    · have b3 : Below N w W3 := by rw [h3]; exact belowRow ((unhide HB1).trans ((unhide HB2).mono (by omega))) (by omega) _
      rw [unhide HE7]
      exact belowRow ((b3.trans (h5.mono (by omega))).trans (h6.mono (by omega))) (by omega) _
  clear HX1 HB1 HS1 HX2 HB2 HS2 HX3 HE3 HB5 HX6 HB6 HS6 HX7 HE7 HLA
  have HD := hide (unhide HD).drew
  have x0 := cellOf (unhide HD).p 0
  have x1 := cellOf (unhide HD).p 1
  have x2 := cellOf (unhide HD).p 2
  have x3 := cellOf (unhide HD).p 3
  simp only [List.getElem?_toArray, List.getElem?_cons_zero, List.getElem?_cons_succ] at x0 x1 x2 x3
  clear heq hta hzv
  go_region_with (first | (go_at_call 63; refine (unhide HWr _).mono ?_; rintro e w5 ⟨rfl, hb5⟩; have HD := hide ((unhide HD).below hb5); clear hb5))
  all_goals (
    go_wp2_with (first
      | (refine wpList_store_hid (by rfl) 70 (.tmp 4) (.tmp 36) (by rfl) N #[.int .u8 0, .int .u32 0, .int .u64 0, .string ⟨#[]⟩] (by rfl) (by rfl) 70 _ (unhide HD).r pageInfo (by rfl) zp_one ?_; intro W9 HX9 HE9; simp only [Act.put]))
    refine bodyPost_ret (results_cell_tmp rfl _ _ N 70 #[.int .u8 0, .int .u32 0, .int .u64 0, .string ⟨#[]⟩] (0, 0) _ rfl (unhide HX9) Tryd.underlying70 rfl pageInfo) rfl ?_
    refine ⟨rfl, ?_⟩
    rw [unhide HE9]
    exact belowRow (unhide HD).bel (Nat.le_refl _) _
    )
set_option maxRecDepth 100000 in
set_option maxHeartbeats 4000000 in
theorem pDecodeNot (l : List UInt8) (hl : l.length = 1024) (g o cap : Nat) (num : Nat) (w : World) (hg : g < w.heap.size) (hr : w.rangeAt g o (img l).toList) (hb : l ≠ zeros 1024) (hn : (claim ⟨l.toArray⟩).num = num) (hw : (claim ⟨l.toArray⟩).wrong = 0) (he : (claim ⟨l.toArray⟩).enc ≠ l) (hT : Tab w) :
    Calls Tryd.prog 40 #[.slice (some ⟨g, o, none⟩) 1024 cap, .int .u32 (num : Int)] w fun e w' => e = .returned (.tuple #[.agg #[.int .u8 0, .int .u32 0, .int .u64 0, .string ⟨#[]⟩], .int .i64 50]) ∧ Below w.heap.size w w' := by
  have hCL := fun u => pClaimed l hl u
  rw [show (claim ⟨l.toArray⟩).cs = #[.int .u8 ((claim ⟨l.toArray⟩).kind : Int), .int .u32 ((claim ⟨l.toArray⟩).num : Int), .int .u64 ((claim ⟨l.toArray⟩).ser : Int), .string (claim ⟨l.toArray⟩).body] from rfl] at hCL
  have hWr : ∀ u, Calls Tryd.prog 63 #[.agg #[.int .u8 ((claim ⟨l.toArray⟩).kind : Int), .int .u32 ((claim ⟨l.toArray⟩).num : Int), .int .u64 ((claim ⟨l.toArray⟩).ser : Int), .string (claim ⟨l.toArray⟩).body]] u fun e w' => e = .returned (.int .i64 (claim ⟨l.toArray⟩).wrong) ∧ Below u.heap.size u w' := fun u => pWrong (claim ⟨l.toArray⟩) u
  have hLa : ∀ u, Tab u → Calls Tryd.prog 64 #[.agg #[.int .u8 ((claim ⟨l.toArray⟩).kind : Int), .int .u32 ((claim ⟨l.toArray⟩).num : Int), .int .u64 ((claim ⟨l.toArray⟩).ser : Int), .string (claim ⟨l.toArray⟩).body]] u fun e w' => e = .returned (.agg (img (claim ⟨l.toArray⟩).enc)) ∧ Below u.heap.size u w' := fun u hu => pLaid (claim ⟨l.toArray⟩) (claim_fit _ (by rw [← size_toList]; exact hl)) (Pg.may hw).2 u hu
  have heq2 := fun W => eqImg (claim ⟨l.toArray⟩).enc l ((claim ⟨l.toArray⟩).bytes_len (Pg.may hw).2 _) hl W
  rw [hw] at hWr
  rw [decide_eq_false he] at heq2
  generalize (claim ⟨l.toArray⟩).enc = E at *
  generalize (claim ⟨l.toArray⟩).kind = kd at *
  generalize (claim ⟨l.toArray⟩).num = nm at *
  generalize (claim ⟨l.toArray⟩).ser = sr at *
  generalize (claim ⟨l.toArray⟩).body = bd at *
  have HCL0 := hide hCL
  clear hCL
  subst hn
  have HWr := hide hWr
  have HLd := hide hLa
  have HT := hide hT
  have HN0 : Hid (0 < w.heap.size) := hT.pos
  clear hWr hLa hT hw he
  obtain ⟨N, hN⟩ : ∃ N, N = w.heap.size := ⟨_, rfl⟩
  have HN := hide hN
  rw [← hN] at hg ⊢
  have HIM : Hid ((Tryd.prog.info? 126).map (·.size) = some (img l).size) := by show _ = _; rw [img_size, hl]; exact imgInfo
  have HSZ : Hid ((img (zeros 1024)).size = (img l).size) := by show _ = _; rw [img_size, img_size, hl]; rfl
  have HON := hide (img_one l)
  have heq := fun W => eqImg l (zeros 1024) hl (by rw [zeros, List.length_replicate]) W
  rw [decide_eq_false hb] at heq
  have HCLa := hide (unhide HCL0)
  have HLA := hide hr
  have HGL := hide hg
  have hzv := fun (W : World) => zeroVal W
  have HZI := hide zeroImg
  have HIR := hide (fun (u : World) (L : Nat) (h : u.heap[L]? = some (.cells (img l) 126 (0, 0))) => img_range h)
  have hta := run_toArr ⟨g, o, none⟩ cap
  generalize img E = A2 at *
  generalize img l = A at *
  generalize img (zeros 1024) = Z at *
  clear hN hr hl
  go_enter Tryd.func40, Tryd.ntmps40
  go_wp2_with (first
    | (refine wpList_alloc_row (by rfl) 70 (by rfl) (some 4) (by rfl) N (by exact (unhide HN).symm) _ zeroPage ?_; intro W1 HX1 HB1 HS1; simp only [Act.put, List.setIfInBounds_toArray, List.set_cons_zero, List.set_cons_succ])
    | (refine wpList_load_mid (by rfl) 126 (.tmp 13) (by rfl) g o (by rfl) A.toList _ (fun j v hv => ((unhide HB1).cell (p := ⟨g, o + j, none⟩) (unhide HGL)).trans (unhide HLA j v hv)) Tryd.underlying126 (by rfl) (by simpa using unhide HIM) ?_; simp only [Act.put, List.setIfInBounds_toArray, List.set_cons_zero, List.set_cons_succ, Array.toArray_toList])
    | (refine wpList_alloc_row (by rfl) 126 (by rfl) (some 6) (by rfl) (N + 1) (by exact unhide HS1) Z (unhide HZI) ?_; intro W2 HX2 HB2 HS2; simp only [Act.put, List.setIfInBounds_toArray, List.set_cons_zero, List.set_cons_succ])
    | (refine wpList_store_hid (by rfl) 126 (.tmp 6) (.tmp 14) (by rfl) (N + 1) A (by rfl) (by rfl) 126 Z (unhide HX2) (unhide HIM) (unhide HSZ) (unhide HON) ?_; intro W3 HX3 HE3; simp only [Act.put])
    | (refine wpList_load_mid (by rfl) 126 (.tmp 6) (by rfl) (N + 1) 0 (by rfl) A.toList _ (unhide HIR W3 (N + 1) (unhide HX3)) Tryd.underlying126 (by rfl) (by simpa using unhide HIM) ?_; simp only [Act.put, List.setIfInBounds_toArray, List.set_cons_zero, List.set_cons_succ, Array.toArray_toList]))
  refine (unhide HCLa _).mono ?_
  rintro e W5 ⟨rfl, hb5⟩
  obtain ⟨M, hM⟩ : ∃ M, M = W5.heap.size := ⟨_, rfl⟩
  have HM := hide hM
  have HB5 := hide hb5
  clear hM hb5
  go_wp2_with (first
    | (refine wpList_alloc_row (by rfl) 70 (by rfl) (some 7) (by rfl) M (by exact (unhide HM).symm) _ zeroPage ?_; intro W6 HX6 HB6 HS6; simp only [Act.put, List.setIfInBounds_toArray, List.set_cons_zero, List.set_cons_succ])
    | (refine wpList_store_hid (by rfl) 70 (.tmp 7) (.tmp 20) (by rfl) M #[.int .u8 (kd : Int), .int .u32 (nm : Int), .int .u64 (sr : Int), .string bd] (by rfl) (by rfl) 70 _ (unhide HX6) pageInfo (by rfl) (page_one _ _ _ _) ?_; intro W7 HX7 HE7; simp only [Act.put]))
  have HD : Hid (De N M w W7 A #[.int .u8 (kd : Int), .int .u32 (nm : Int), .int .u64 (sr : Int), .string bd]) := by
    have hM := unhide HM
    have h3 := unhide HE3
    have h5 := unhide HB5
    have hs3 : W3.heap.size = N + 1 + 1 := by rw [h3]; have := unhide HS2; simpa [World.setRow] using this
    have hle := h5.size
    rw [hs3] at h5 hle
    have h6 := unhide HB6
    refine ⟨?_, ?_, unhide HX7, by omega, ?_⟩
    · rw [unhide HE7, heapRow_other _ _ _ _ (by omega), h6.block N (by omega), h5.block N (by omega), h3, heapRow_other _ _ _ _ (by omega)]; exact ((unhide HB2).block N (by omega)).trans (unhide HX1)
    · rw [unhide HE7, heapRow_other _ _ _ _ (by omega), h6.block (N + 1) (by omega), h5.block (N + 1) (by omega)]; exact unhide HX3
    · have b3 : Below N w W3 := by rw [h3]; exact belowRow ((unhide HB1).trans ((unhide HB2).mono (by omega))) (by omega) _
      rw [unhide HE7]
      exact belowRow ((b3.trans (h5.mono (by omega))).trans (h6.mono (by omega))) (by omega) _
  clear HX1 HB1 HS1 HX2 HB2 HS2 HX3 HE3 HB5 HX6 HB6 HS6 HX7 HE7 HLA
  have HD := hide (unhide HD).drew
  have x0 := cellOf (unhide HD).p 0
  have x1 := cellOf (unhide HD).p 1
  have x2 := cellOf (unhide HD).p 2
  have x3 := cellOf (unhide HD).p 3
  simp only [List.getElem?_toArray, List.getElem?_cons_zero, List.getElem?_cons_succ] at x0 x1 x2 x3
  have xr := row_range (unhide HD).l
  have hui := Tryd.underlying126
  have hil : (Tryd.prog.info? 126).map (·.size) = some A.toList.length := by rw [Array.length_toList]; exact unhide HIM
  clear heq hta hzv
  go_region_held3 (fun u => u.cell? ⟨M, 0, none⟩ = some (.int .u8 (kd : Int)) ∧ u.cell? ⟨M, 1, none⟩ = some (.int .u32 (nm : Int)) ∧ u.cell? ⟨M, 2, none⟩ = some (.int .u64 (sr : Int)) ∧ u.cell? ⟨M, 3, none⟩ = some (.string bd) ∧ u.rangeAt (N + 1) 0 A.toList) (first | (go_keep; done) | (go_keep_ranges; done) | exact ⟨z0, z1, z2, z3, zr⟩) (first | (go_at_call 63; refine (unhide HWr _).mono ?_; rintro e w5 ⟨rfl, hb5⟩; have HD := hide ((unhide HD).below hb5); have z0 := cellOf (unhide HD).p 0; have z1 := cellOf (unhide HD).p 1; have z2 := cellOf (unhide HD).p 2; have z3 := cellOf (unhide HD).p 3; simp only [List.getElem?_toArray, List.getElem?_cons_zero, List.getElem?_cons_succ] at z0 z1 z2 z3; have zr := row_range (unhide HD).l; clear hb5) | (go_at_call 64; refine (unhide HLd _ ((unhide HT).below (unhide HD).bel (by have := unhide HN0; have := unhide HN; omega))).mono ?_; rintro e w5 ⟨rfl, hb5⟩; have HD := hide ((unhide HD).below hb5); have z0 := cellOf (unhide HD).p 0; have z1 := cellOf (unhide HD).p 1; have z2 := cellOf (unhide HD).p 2; have z3 := cellOf (unhide HD).p 3; simp only [List.getElem?_toArray, List.getElem?_cons_zero, List.getElem?_cons_succ] at z0 z1 z2 z3; have zr := row_range (unhide HD).l; clear hb5))
  clear x0 x1 x2 x3 xr z0 z1 z2 z3 zr
  go_wp2_with (first
    | (refine wpList_store_hid (by rfl) 70 (.tmp 4) (.tmp 36) (by rfl) N #[.int .u8 0, .int .u32 0, .int .u64 0, .string ⟨#[]⟩] (by rfl) (by rfl) 70 _ (unhide HD).r pageInfo (by rfl) zp_one ?_; intro W9 HX9 HE9; simp only [Act.put]))
  refine bodyPost_ret (results_cell_tmp rfl _ _ N 70 #[.int .u8 0, .int .u32 0, .int .u64 0, .string ⟨#[]⟩] (0, 0) _ rfl (unhide HX9) Tryd.underlying70 rfl pageInfo) rfl ?_
  refine ⟨rfl, ?_⟩
  rw [unhide HE9]
  exact belowRow (unhide HD).bel (Nat.le_refl _) _
set_option maxRecDepth 100000 in
set_option maxHeartbeats 4000000 in
theorem pDecodeOk (l : List UInt8) (hl : l.length = 1024) (g o cap : Nat) (num : Nat) (w : World) (hg : g < w.heap.size) (hr : w.rangeAt g o (img l).toList) (hb : l ≠ zeros 1024) (hn : (claim ⟨l.toArray⟩).num = num) (hw : (claim ⟨l.toArray⟩).wrong = 0) (he : (claim ⟨l.toArray⟩).enc = l) (hT : Tab w) :
    Calls Tryd.prog 40 #[.slice (some ⟨g, o, none⟩) 1024 cap, .int .u32 (num : Int)] w fun e w' => e = .returned (.tuple #[.agg (claim ⟨l.toArray⟩).cs, .int .i64 0]) ∧ Below w.heap.size w w' := by
  have hCL := fun u => pClaimed l hl u
  rw [show (claim ⟨l.toArray⟩).cs = #[.int .u8 ((claim ⟨l.toArray⟩).kind : Int), .int .u32 ((claim ⟨l.toArray⟩).num : Int), .int .u64 ((claim ⟨l.toArray⟩).ser : Int), .string (claim ⟨l.toArray⟩).body] from rfl] at hCL
  have hWr : ∀ u, Calls Tryd.prog 63 #[.agg #[.int .u8 ((claim ⟨l.toArray⟩).kind : Int), .int .u32 ((claim ⟨l.toArray⟩).num : Int), .int .u64 ((claim ⟨l.toArray⟩).ser : Int), .string (claim ⟨l.toArray⟩).body]] u fun e w' => e = .returned (.int .i64 (claim ⟨l.toArray⟩).wrong) ∧ Below u.heap.size u w' := fun u => pWrong (claim ⟨l.toArray⟩) u
  have hLa : ∀ u, Tab u → Calls Tryd.prog 64 #[.agg #[.int .u8 ((claim ⟨l.toArray⟩).kind : Int), .int .u32 ((claim ⟨l.toArray⟩).num : Int), .int .u64 ((claim ⟨l.toArray⟩).ser : Int), .string (claim ⟨l.toArray⟩).body]] u fun e w' => e = .returned (.agg (img (claim ⟨l.toArray⟩).enc)) ∧ Below u.heap.size u w' := fun u hu => pLaid (claim ⟨l.toArray⟩) (claim_fit _ (by rw [← size_toList]; exact hl)) (Pg.may hw).2 u hu
  have heq2 := fun W => eqImg (claim ⟨l.toArray⟩).enc l ((claim ⟨l.toArray⟩).bytes_len (Pg.may hw).2 _) hl W
  rw [hw] at hWr
  rw [decide_eq_true he] at heq2
  have HCS : Hid ((claim ⟨l.toArray⟩).cs = #[.int .u8 ((claim ⟨l.toArray⟩).kind : Int), .int .u32 ((claim ⟨l.toArray⟩).num : Int), .int .u64 ((claim ⟨l.toArray⟩).ser : Int), .string (claim ⟨l.toArray⟩).body]) := rfl
  generalize (claim ⟨l.toArray⟩).enc = E at *
  generalize hcs : (claim ⟨l.toArray⟩).cs = cs0 at *
  clear hcs
  generalize (claim ⟨l.toArray⟩).kind = kd at *
  generalize (claim ⟨l.toArray⟩).num = nm at *
  generalize (claim ⟨l.toArray⟩).ser = sr at *
  generalize (claim ⟨l.toArray⟩).body = bd at *
  have HCL0 := hide hCL
  clear hCL
  subst hn
  have HWr := hide hWr
  have HLd := hide hLa
  have HT := hide hT
  have HN0 : Hid (0 < w.heap.size) := hT.pos
  clear hWr hLa hT hw he
  obtain ⟨N, hN⟩ : ∃ N, N = w.heap.size := ⟨_, rfl⟩
  have HN := hide hN
  rw [← hN] at hg ⊢
  have HIM : Hid ((Tryd.prog.info? 126).map (·.size) = some (img l).size) := by show _ = _; rw [img_size, hl]; exact imgInfo
  have HSZ : Hid ((img (zeros 1024)).size = (img l).size) := by show _ = _; rw [img_size, img_size, hl]; rfl
  have HON := hide (img_one l)
  have heq := fun W => eqImg l (zeros 1024) hl (by rw [zeros, List.length_replicate]) W
  rw [decide_eq_false hb] at heq
  have HCLa := hide (unhide HCL0)
  have HLA := hide hr
  have HGL := hide hg
  have hzv := fun (W : World) => zeroVal W
  have HZI := hide zeroImg
  have HIR := hide (fun (u : World) (L : Nat) (h : u.heap[L]? = some (.cells (img l) 126 (0, 0))) => img_range h)
  have hta := run_toArr ⟨g, o, none⟩ cap
  generalize img E = A2 at *
  generalize img l = A at *
  generalize img (zeros 1024) = Z at *
  clear hN hr hl
  go_enter Tryd.func40, Tryd.ntmps40
  go_wp2_with (first
    | (refine wpList_alloc_row (by rfl) 70 (by rfl) (some 4) (by rfl) N (by exact (unhide HN).symm) _ zeroPage ?_; intro W1 HX1 HB1 HS1; simp only [Act.put, List.setIfInBounds_toArray, List.set_cons_zero, List.set_cons_succ])
    | (refine wpList_load_mid (by rfl) 126 (.tmp 13) (by rfl) g o (by rfl) A.toList _ (fun j v hv => ((unhide HB1).cell (p := ⟨g, o + j, none⟩) (unhide HGL)).trans (unhide HLA j v hv)) Tryd.underlying126 (by rfl) (by simpa using unhide HIM) ?_; simp only [Act.put, List.setIfInBounds_toArray, List.set_cons_zero, List.set_cons_succ, Array.toArray_toList])
    | (refine wpList_alloc_row (by rfl) 126 (by rfl) (some 6) (by rfl) (N + 1) (by exact unhide HS1) Z (unhide HZI) ?_; intro W2 HX2 HB2 HS2; simp only [Act.put, List.setIfInBounds_toArray, List.set_cons_zero, List.set_cons_succ])
    | (refine wpList_store_hid (by rfl) 126 (.tmp 6) (.tmp 14) (by rfl) (N + 1) A (by rfl) (by rfl) 126 Z (unhide HX2) (unhide HIM) (unhide HSZ) (unhide HON) ?_; intro W3 HX3 HE3; simp only [Act.put])
    | (refine wpList_load_mid (by rfl) 126 (.tmp 6) (by rfl) (N + 1) 0 (by rfl) A.toList _ (unhide HIR W3 (N + 1) (unhide HX3)) Tryd.underlying126 (by rfl) (by simpa using unhide HIM) ?_; simp only [Act.put, List.setIfInBounds_toArray, List.set_cons_zero, List.set_cons_succ, Array.toArray_toList]))
  refine (unhide HCLa _).mono ?_
  rintro e W5 ⟨rfl, hb5⟩
  obtain ⟨M, hM⟩ : ∃ M, M = W5.heap.size := ⟨_, rfl⟩
  have HM := hide hM
  have HB5 := hide hb5
  clear hM hb5
  go_wp2_with (first
    | (refine wpList_alloc_row (by rfl) 70 (by rfl) (some 7) (by rfl) M (by exact (unhide HM).symm) _ zeroPage ?_; intro W6 HX6 HB6 HS6; simp only [Act.put, List.setIfInBounds_toArray, List.set_cons_zero, List.set_cons_succ])
    | (refine wpList_store_hid (by rfl) 70 (.tmp 7) (.tmp 20) (by rfl) M #[.int .u8 (kd : Int), .int .u32 (nm : Int), .int .u64 (sr : Int), .string bd] (by rfl) (by rfl) 70 _ (unhide HX6) pageInfo (by rfl) (page_one _ _ _ _) ?_; intro W7 HX7 HE7; simp only [Act.put]))
  have HD : Hid (De N M w W7 A #[.int .u8 (kd : Int), .int .u32 (nm : Int), .int .u64 (sr : Int), .string bd]) := by
    have hM := unhide HM
    have h3 := unhide HE3
    have h5 := unhide HB5
    have hs3 : W3.heap.size = N + 1 + 1 := by rw [h3]; have := unhide HS2; simpa [World.setRow] using this
    have hle := h5.size
    rw [hs3] at h5 hle
    have h6 := unhide HB6
    refine ⟨?_, ?_, unhide HX7, by omega, ?_⟩
    · rw [unhide HE7, heapRow_other _ _ _ _ (by omega), h6.block N (by omega), h5.block N (by omega), h3, heapRow_other _ _ _ _ (by omega)]; exact ((unhide HB2).block N (by omega)).trans (unhide HX1)
    · rw [unhide HE7, heapRow_other _ _ _ _ (by omega), h6.block (N + 1) (by omega), h5.block (N + 1) (by omega)]; exact unhide HX3
    · have b3 : Below N w W3 := by rw [h3]; exact belowRow ((unhide HB1).trans ((unhide HB2).mono (by omega))) (by omega) _
      rw [unhide HE7]
      exact belowRow ((b3.trans (h5.mono (by omega))).trans (h6.mono (by omega))) (by omega) _
  clear HX1 HB1 HS1 HX2 HB2 HS2 HX3 HE3 HB5 HX6 HB6 HS6 HX7 HE7 HLA
  have HD := hide (unhide HD).drew
  have x0 := cellOf (unhide HD).p 0
  have x1 := cellOf (unhide HD).p 1
  have x2 := cellOf (unhide HD).p 2
  have x3 := cellOf (unhide HD).p 3
  simp only [List.getElem?_toArray, List.getElem?_cons_zero, List.getElem?_cons_succ] at x0 x1 x2 x3
  have xr := row_range (unhide HD).l
  have hui := Tryd.underlying126
  have hil : (Tryd.prog.info? 126).map (·.size) = some A.toList.length := by rw [Array.length_toList]; exact unhide HIM
  clear heq hta hzv
  go_region_held3 (fun u => u.cell? ⟨M, 0, none⟩ = some (.int .u8 (kd : Int)) ∧ u.cell? ⟨M, 1, none⟩ = some (.int .u32 (nm : Int)) ∧ u.cell? ⟨M, 2, none⟩ = some (.int .u64 (sr : Int)) ∧ u.cell? ⟨M, 3, none⟩ = some (.string bd) ∧ u.rangeAt (N + 1) 0 A.toList) (first | (go_keep; done) | (go_keep_ranges; done) | exact ⟨z0, z1, z2, z3, zr⟩) (first | (go_at_call 63; refine (unhide HWr _).mono ?_; rintro e w5 ⟨rfl, hb5⟩; have HD := hide ((unhide HD).below hb5); have z0 := cellOf (unhide HD).p 0; have z1 := cellOf (unhide HD).p 1; have z2 := cellOf (unhide HD).p 2; have z3 := cellOf (unhide HD).p 3; simp only [List.getElem?_toArray, List.getElem?_cons_zero, List.getElem?_cons_succ] at z0 z1 z2 z3; have zr := row_range (unhide HD).l; clear hb5) | (go_at_call 64; refine (unhide HLd _ ((unhide HT).below (unhide HD).bel (by have := unhide HN0; have := unhide HN; omega))).mono ?_; rintro e w5 ⟨rfl, hb5⟩; have HD := hide ((unhide HD).below hb5); have z0 := cellOf (unhide HD).p 0; have z1 := cellOf (unhide HD).p 1; have z2 := cellOf (unhide HD).p 2; have z3 := cellOf (unhide HD).p 3; simp only [List.getElem?_toArray, List.getElem?_cons_zero, List.getElem?_cons_succ] at z0 z1 z2 z3; have zr := row_range (unhide HD).l; clear hb5))
  clear x0 x1 x2 x3 xr z0 z1 z2 z3 zr
  have HRG : Hid (w5.rangeAt M 0 [.int .u8 (kd : Int), .int .u32 (nm : Int), .int .u64 (sr : Int), .string bd]) := row_range (unhide HD).p
  go_wp2_with (first
    | (refine wpList_load_mid (by rfl) 70 (.tmp 7) (by rfl) M 0 (by rfl) [.int .u8 (kd : Int), .int .u32 (nm : Int), .int .u64 (sr : Int), .string bd] _ (unhide HRG) Tryd.underlying70 (by rfl) pageInfo ?_; simp only [Act.put, List.setIfInBounds_toArray, List.set_cons_zero, List.set_cons_succ])
    | (refine wpList_store_hid (by rfl) 70 (.tmp 4) (.tmp 37) (by rfl) N #[.int .u8 (kd : Int), .int .u32 (nm : Int), .int .u64 (sr : Int), .string bd] (by rfl) (by rfl) 70 _ (unhide HD).r pageInfo (by rfl) (page_one _ _ _ _) ?_; intro W9 HX9 HE9; simp only [Act.put]))
  refine bodyPost_ret (results_cell_tmp rfl _ _ N 70 #[.int .u8 (kd : Int), .int .u32 (nm : Int), .int .u64 (sr : Int), .string bd] (0, 0) _ rfl (unhide HX9) Tryd.underlying70 rfl pageInfo) rfl ?_
  refine ⟨by rw [unhide HCS]; rfl, ?_⟩
  rw [unhide HE9]
  exact belowRow (unhide HD).bel (Nat.le_refl _) _
end Go.Proofs.YtfdfbjijomepgaaDoor
