/- The disk: read. -/
import Derived.Test.YtfdibmbffmgikaaKc
import Derived.Laws.Slices
namespace Go.Proofs.Ytfdibmbffmgikaa
open Go.RowKit Go.Lib

theorem size_of {P : Program} {t : TypeId} {n : Nat} (h : (P.info? t).map (·.size) = some n) (W : World) : (sizeOf t).run P W = .ok n W := by
  cases hq : P.info? t with
  | none => simp [hq] at h
  | some i => simp [sizeOf, typeInfo, hq] at h ⊢; exact h
theorem pageInfo : (Try.prog.info? 78).map (·.size) = some 1024 := by kernel_rfl
theorem writeInfo : (Try.prog.info? 80).map (·.size) = some 1025 := by kernel_rfl
theorem u8Info : (Try.prog.info? 5).map (·.size) = some 1 := by kernel_rfl
theorem pagesUnd : Try.prog.underlying 66 = some (.slice 78) := by kernel_rfl
theorem writesUnd : Try.prog.underlying 67 = some (.slice 80) := by kernel_rfl
theorem pageUnd : Try.prog.underlying 78 = some (.array (Try.prog.arrayLen 78) (Try.prog.elem 78)) := by kernel_rfl
theorem pageLen : Try.prog.arrayLen 78 = 1024 := by kernel_rfl
theorem pageElem (W : World) : (sizeOf (Try.prog.elem 78)).run Try.prog W = .ok 1 W := size_of (by kernel_rfl) W
theorem ixPages (L n c i : Nat) (hi : i < n) (W : World) : (Instr.indexAt 66 (.slice (some ⟨L, 0, none⟩) n c) (.int .i64 (i : Int))).run Try.prog W = .ok (.pointer (some ⟨L, i * 1024, none⟩)) W := by
  have he : Try.prog.elem 66 = 78 := by kernel_rfl
  rw [run_indexAt_slice W 66 _ _ _ _ _ (by rw [he]; exact pagesUnd), if_pos ⟨by omega, by omega⟩, he, size_of pageInfo]
  simp only [Result.andThen_ok, Int.toNat_natCast, Addr.add_mid, Nat.zero_add]
theorem ixWrites (L n c i : Nat) (hi : i < n) (W : World) : (Instr.indexAt 67 (.slice (some ⟨L, 0, none⟩) n c) (.int .i64 (i : Int))).run Try.prog W = .ok (.pointer (some ⟨L, i * 1025, none⟩)) W := by
  have he : Try.prog.elem 67 = 80 := by kernel_rfl
  rw [run_indexAt_slice W 67 _ _ _ _ _ (by rw [he]; exact writesUnd), if_pos ⟨by omega, by omega⟩, he, size_of writeInfo]
  simp only [Result.andThen_ok, Int.toNat_natCast, Addr.add_mid, Nat.zero_add]
theorem slPage (g o : Nat) (W : World) : (Instr.sliceAt 78 (.pointer (some ⟨g, o, none⟩)) none none none).run Try.prog W = .ok (.slice (some ⟨g, o, none⟩) 1024 1024) W := by
  rw [run_sliceAt_array_all W 78 _ pageUnd, pageElem]
  simp only [Result.andThen_ok, slicedAt, pageLen]
  rfl
theorem slPageTo (g o n : Nat) (hn : n ≤ 1024) (W : World) : (Instr.sliceAt 78 (.pointer (some ⟨g, o, none⟩)) none (some (.int .i64 (n : Int))) none).run Try.prog W = .ok (.slice (some ⟨g, o, none⟩) n 1024) W := by
  rw [run_sliceAt_array_h W 78 _ pageUnd .i64 n (by omega) (by rw [pageLen]; omega), pageElem]
  simp only [Result.andThen_ok, slicedAt, pageLen, Int.toNat_natCast]
  rw [if_neg (by omega), Addr.add_mid]
  rfl
section
variable {B : Nat} {u : World} {D L T : Nat} {v : Value} {f : List Nat} {d : Dk} {F : List Nat}
theorem DskM.page_at (h : DskM B u D L T v f d) (i : Nat) (hi : i < d.lies.length) : u.rangeAt L (i * 1024) (byteCells (d.lies.getD i [])) := by
  intro j x hx
  have hlen : (d.lies.getD i []).length = 1024 := h.ok.len _ (getD_mem _ _ hi _)
  have hj := (List.getElem?_eq_some_iff.1 hx).1
  rw [byteCells_length, hlen] at hj
  rw [cell_of_row u L _ _ _ _ h.lies, ← hx]
  have := flat_at d.lies h.ok.len i hi j hj
  simp only [img, byteCells, List.getElem?_toArray, List.getElem?_map, this]
theorem DskM.row_at (h : DskM B u D L T v f d) (i : Nat) (hi : i < d.pend.length) : ∃ g c, v = .slice (some ⟨g, 0, none⟩) d.pend.length c ∧ d.pend.length ≤ c ∧ u.rangeAt g (i * 1025) (wCells d.pend[i]) := by
  rcases h.pend.2 with ⟨_, h2⟩ | ⟨g, cap, cur, hv, h1, h2, h3, h4, h5, h6⟩
  · omega
  · refine ⟨g, cap, hv, h3, fun j x hx => ?_⟩
    have hl : ∀ q ∈ d.pend, q.2.length = 1024 := fun q hq => (h.ok.pg q hq).2
    have hj := (List.getElem?_eq_some_iff.1 hx).1
    rw [wCells_len _ (hl _ (List.getElem_mem hi))] at hj
    rw [cell_of_row u g _ _ _ _ h2, ← hx, ← pCells_at d.pend hl i hi j hj, ← h6, List.getElem?_take_of_lt (by omega), Array.getElem?_toList]
theorem DskM.write_at (h : DskM B u D L T v f d) (i : Nat) (hi : i < d.pend.length) : ∃ g c, v = .slice (some ⟨g, 0, none⟩) d.pend.length c ∧ d.pend.length ≤ c ∧ u.cell? ⟨g, i * 1025, none⟩ = some (.int .i64 (d.pend[i].1 : Int)) ∧ u.rangeAt g (i * 1025 + 1) (byteCells d.pend[i].2) := by
  obtain ⟨g, c, h1, h2, h3⟩ := h.row_at i hi
  have h4 := h3 0 (.int .i64 (d.pend[i].1 : Int)) (by simp [wCells])
  rw [Nat.add_zero] at h4
  refine ⟨g, c, h1, h2, h4, fun j x hx => ?_⟩
  have := h3 (j + 1) x (by simpa [wCells] using hx)
  rw [show i * 1025 + 1 + j = i * 1025 + (j + 1) from by omega]
  exact this
theorem DskM.last_at (h : DskM B u D L T v f d) (i : Nat) (hi : i < d.lies.length) : ∃ x, f[i]? = some x ∧ u.cell? ⟨T, i, none⟩ = some (.int .i64 (x : Int)) := by
  have hf : i < f.length := by rw [h.flen]; exact hi
  refine ⟨f[i], List.getElem?_eq_getElem hf, ?_⟩
  rw [cell_of_row u T _ _ _ _ h.last]
  simp [nums, hf]
theorem kNewest (h : DskX B u D L T v f d) (i : Nat) (hi : i < d.lies.length) (hm : d.pend.length ≤ 1000000000000) : Calls Try.prog 38 #[.pointer (some ⟨D, 0, none⟩), .int .i64 (i : Int)] u fun e u' =>
    ∃ g o, e = .returned (.pointer (some ⟨g, o, none⟩)) ∧ u' = u ∧ (g = L ∨ v.ownBlock = some g) ∧ u.rangeAt g o (byteCells (d.page i)) := by
  obtain ⟨x, hx, hcell⟩ := h.last_at i hi
  have h0 := h.c0
  have h1 := h.c1
  have h2 := h.c2
  have hl := h.lst i x hx
  have hii : (i : Int) < (d.lies.length : Int) := by omega
  cases x with
  | zero =>
    have hr := h.page_at i hi
    have hp : d.page i = d.lies.getD i [] := hl.newest_zero _
    rw [← hp] at hr
    have hix := ixPages L d.lies.length d.lies.length i hi
    clear h hl hx hp
    generalize d.lies.length = n at *
    go_enter Try.func38, Try.ntmps38
    go_wp2
    go_ret
    exact ⟨L, i * 1024, rfl, rfl, .inl rfl, hr⟩
  | succ k =>
    obtain ⟨hk, hp1, hp⟩ := hl.newest_succ (d.lies.getD i [])
    obtain ⟨g, c, hv, hc, hcw, hr⟩ := h.write_at k hk
    rw [← hp] at hr
    have hix := ixWrites g d.pend.length c k hk
    have hw : wrap64 (((k + 1 : Nat) : Int) - 1) = (k : Int) := by rw [show ((k + 1 : Nat) : Int) - 1 = (k : Int) from by omega]; go_unwrap
    have hpos : (0 : Int) < ((k + 1 : Nat) : Int) := by omega
    clear h hl hx hp hp1 hc hcw
    subst hv
    generalize ((k + 1 : Nat) : Int) = K at *
    have HR := hide hr
    clear hr
    generalize d.lies.length = n at *
    generalize d.pend.length = m at *
    go_enter Try.func38, Try.ntmps38
    go_wp2
    go_ret
    exact ⟨g, k * 1025 + 1, rfl, rfl, .inr rfl, unhide HR⟩
end
end Go.Proofs.Ytfdibmbffmgikaa
