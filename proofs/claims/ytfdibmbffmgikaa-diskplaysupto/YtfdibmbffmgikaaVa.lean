/- The document's disk: in memory; its small functions. -/
import Derived.Test.YtfdibmbffmgikaaKv
namespace Go.Proofs.Ytfdibmbffmgikaa
open Go.RowKit Go.Lib

def rCells (v1 v2 : Value) (off : Bool) (fuse : Int) : Array Value := #[v1, v2, .bool off, .int .i64 fuse]
/-- the document's disk at M: what lies at v1, what is pending at v2 -/
structure RkX (B : Nat) (u : World) (M : Nat) (v1 v2 : Value) (d : Dk) : Prop where
  blk : u.heap[M]? = some (.cells (rCells v1 v2 d.off d.fuse) 83 (0, 0))
  lies : u.ownsRow B 9 1 v1 d.lies.length (d.lies.map str)
  pend : u.ownsRow B 95 2 v2 d.pend.length (cCells d.pend)
  bM : B ≤ M
  m1 : v1.ownBlock ≠ some M
  m2 : v2.ownBlock ≠ some M
  m12 : ∀ k, v1.ownBlock = some k → v2.ownBlock ≠ some k
  ok : d.Ok
def Rk (B : Nat) (u : World) (M : Nat) (F : List Nat) (d : Dk) : Prop := ∃ v1 v2, F = M :: (v1.ownBlock.toList ++ v2.ownBlock.toList) ∧ RkX B u M v1 v2 d
section
variable {B : Nat} {u u' : World} {M : Nat} {v1 v2 : Value} {d : Dk} {F : List Nat}
theorem RkX.lt_of (h : RkX B u M v1 v2 d) : M < u.heap.size := (Array.getElem?_eq_some_iff.1 h.blk).1
theorem Rk.ge (h : Rk B u M F d) : ∀ k ∈ F, B ≤ k ∧ k < u.heap.size := by
  obtain ⟨v1, v2, rfl, h⟩ := h
  intro k hk
  rcases List.mem_cons.1 hk with rfl | hk
  · exact ⟨h.bM, h.lt_of⟩
  · rcases List.mem_append.1 hk with hk | hk
    · exact h.lies.lt k (mem_toList hk)
    · exact h.pend.lt k (mem_toList hk)
theorem RkX.keep (h : RkX B u M v1 v2 d) (hb : ∀ k, k = M ∨ v1.ownBlock = some k ∨ v2.ownBlock = some k → u'.heap[k]? = u.heap[k]?) : RkX B u' M v1 v2 d :=
  { h with
    blk := (hb M (by simp)).trans h.blk
    lies := ownsRow_keep h.lies fun k hk => hb k (.inr (.inl hk))
    pend := ownsRow_keep h.pend fun k hk => hb k (.inr (.inr hk)) }
theorem Rk.keep (h : Rk B u M F d) (hb : ∀ k ∈ F, u'.heap[k]? = u.heap[k]?) : Rk B u' M F d := by
  obtain ⟨v1, v2, rfl, h⟩ := h
  refine ⟨v1, v2, rfl, h.keep fun k hk => hb k ?_⟩
  rcases hk with rfl | hk | hk <;> simp_all
theorem Rk.upd {G : List Nat} (h : Rk B u M F d) (hu : UpS u u' G) (hd : ∀ k ∈ F, k ∉ G) : Rk B u' M F d := h.keep fun k hk => hu.block k (h.ge k hk).2 (hd k hk)
theorem Rk.below (h : Rk B u M F d) (hb : Below u.heap.size u u') : Rk B u' M F d := h.keep fun k hk => hb.block k (h.ge k hk).2
theorem RkX.below (h : RkX B u M v1 v2 d) (hb : Below u.heap.size u u') : RkX B u' M v1 v2 d := h.keep fun k hk => hb.block k (by
  rcases hk with rfl | hk | hk
  · exact h.lt_of
  · exact (h.lies.lt k hk).2
  · exact (h.pend.lt k hk).2)
theorem Rk.ok (h : Rk B u M F d) : d.Ok := by obtain ⟨v1, v2, rfl, h⟩ := h; exact h.ok
theorem RkX.cell (h : RkX B u M v1 v2 d) (k : Nat) : u.cell? ⟨M, k, none⟩ = (rCells v1 v2 d.off d.fuse)[k]? := cell_of_row u M k _ _ _ h.blk
theorem RkX.c0 (h : RkX B u M v1 v2 d) : u.cell? ⟨M, 0, none⟩ = some v1 := h.cell 0
theorem RkX.c1 (h : RkX B u M v1 v2 d) : u.cell? ⟨M, 1, none⟩ = some v2 := h.cell 1
theorem RkX.c2 (h : RkX B u M v1 v2 d) : u.cell? ⟨M, 2, none⟩ = some (.bool d.off) := h.cell 2
theorem RkX.c3 (h : RkX B u M v1 v2 d) : u.cell? ⟨M, 3, none⟩ = some (.int .i64 d.fuse) := h.cell 3
theorem RkX.fz (h : RkX B u M v1 v2 d) (k : Nat) : u.frozen? ⟨M, k, none⟩ = false := by simp [World.frozen?, h.blk]
theorem RkX.setOff (h : RkX B u M v1 v2 d) (x : Bool) : RkX B (u.setCell ⟨M, 2, none⟩ (.bool x)) M v1 v2 ⟨d.lies, d.pend, x, d.fuse⟩ := by
  have ho : ∀ k, k ≠ M → (u.setCell ⟨M, 2, none⟩ (.bool x)).heap[k]? = u.heap[k]? := fun k hk => Deep.blk_setCell_other u ⟨M, 2, none⟩ _ k hk
  exact ⟨by rw [heapCell_same h.blk]; simp [rCells], ownsRow_keep h.lies fun k hk => ho k (fun e => h.m1 (e ▸ hk)), ownsRow_keep h.pend fun k hk => ho k (fun e => h.m2 (e ▸ hk)), h.bM, h.m1, h.m2, h.m12, ⟨h.ok.pos, h.ok.max, h.ok.len, h.ok.pg, h.ok.f0, h.ok.f1⟩⟩
theorem RkX.setFuse (h : RkX B u M v1 v2 d) (x : Int) (h0 : -1 ≤ x) (h1 : x ≤ 9223372036854775807) : RkX B (u.setCell ⟨M, 3, none⟩ (.int .i64 x)) M v1 v2 ⟨d.lies, d.pend, d.off, x⟩ := by
  have ho : ∀ k, k ≠ M → (u.setCell ⟨M, 3, none⟩ (.int .i64 x)).heap[k]? = u.heap[k]? := fun k hk => Deep.blk_setCell_other u ⟨M, 3, none⟩ _ k hk
  exact ⟨by rw [heapCell_same h.blk]; simp [rCells], ownsRow_keep h.lies fun k hk => ho k (fun e => h.m1 (e ▸ hk)), ownsRow_keep h.pend fun k hk => ho k (fun e => h.m2 (e ▸ hk)), h.bM, h.m1, h.m2, h.m12, ⟨h.ok.pos, h.ok.max, h.ok.len, h.ok.pg, h0, h1⟩⟩
theorem ownsRow_cell {e : TypeId} {n : Nat} {xs : List Value} {v : Value} (h : u.ownsRow B e 1 v n xs) (i : Nat) (hi : i < n) : ∃ g c x, v = .slice (some ⟨g, 0, none⟩) n c ∧ xs[i]? = some x ∧ u.cell? ⟨g, i, none⟩ = some x ∧ u.frozen? ⟨g, i, none⟩ = false := by
  rcases h.2 with ⟨_, h2⟩ | ⟨g, cap, cur, hv, h1, h2, h3, h4, h5, h6⟩
  · omega
  · have hl : i < xs.length := by rw [h.1]; omega
    refine ⟨g, cap, xs[i], hv, List.getElem?_eq_getElem hl, ?_, by simp [World.frozen?, h2]⟩
    rw [cell_of_row u g i _ _ _ h2, ← List.getElem?_eq_getElem hl, ← h6, List.getElem?_take_of_lt (by omega), Array.getElem?_toList]
theorem ownsRow_set {e : TypeId} {n g c : Nat} {xs : List Value} (h : u.ownsRow B e 1 (.slice (some ⟨g, 0, none⟩) n c) n xs) (i : Nat) (x : Value) : (u.setCell ⟨g, i, none⟩ x).ownsRow B e 1 (.slice (some ⟨g, 0, none⟩) n c) n (xs.set i x) := by
  refine ⟨by rw [List.length_set]; exact h.1, ?_⟩
  rcases h.2 with ⟨h1, _⟩ | ⟨g', cap, cur, hv, h1, h2, h3, h4, h5, h6⟩
  · cases h1
  · obtain ⟨rfl, rfl⟩ : g = g' ∧ c = cap := by simpa using hv
    refine .inr ⟨g, c, cur.setIfInBounds i x, rfl, h1, heapCell_same h2 _ _, h3, h4, by simpa using h5, ?_⟩
    rw [Array.toList_setIfInBounds, List.take_set, h6]
theorem RkX.lie_at (h : RkX B u M v1 v2 d) (i : Nat) (hi : i < d.lies.length) : ∃ g c, v1 = .slice (some ⟨g, 0, none⟩) d.lies.length c ∧ u.cell? ⟨g, i, none⟩ = some (str (d.lies.getD i [])) ∧ u.frozen? ⟨g, i, none⟩ = false := by
  obtain ⟨g, c, x, h1, h2, h3, h4⟩ := ownsRow_cell h.lies i hi
  have : x = str (d.lies.getD i []) := by simp [hi, List.getD] at h2 ⊢; exact h2.symm
  subst this
  exact ⟨g, c, h1, h3, h4⟩
theorem own_cells {e : TypeId} {v : Value} {p : List (Nat × List UInt8)} (h : u.ownsRow B e 2 v p.length (cCells p)) (i : Nat) (hi : i < p.length) : ∃ g c, v = .slice (some ⟨g, 0, none⟩) p.length c ∧ u.cell? ⟨g, i * 2, none⟩ = some (.int .i64 (p[i].1 : Int)) ∧ u.cell? ⟨g, i * 2 + 1, none⟩ = some (str p[i].2) := by
  rcases h.2 with ⟨_, h2⟩ | ⟨g, cap, cur, hv, h1, h2, h3, h4, h5, h6⟩
  · omega
  · obtain ⟨e1, e2⟩ := cCells_at p i hi
    rw [← h6, List.getElem?_take_of_lt (by omega), Array.getElem?_toList] at e1 e2
    exact ⟨g, cap, hv, by rw [cell_of_row u g _ _ _ _ h2]; exact e1, by rw [cell_of_row u g _ _ _ _ h2]; exact e2⟩
theorem rAsk (h : RkX B u M v1 v2 d) : Calls Try.prog 51 #[.pointer (some ⟨M, 0, none⟩)] u fun e u' => e = .returned (.int .i64 (if d.fuse = 0 then 40 else 0)) ∧ RkX B u' M v1 v2 d.asked ∧ UpS u u' [M] := by
  have h4 := h.c3
  have h3 := h.c2
  have hz3 := h.fz 2
  have hz4 := h.fz 3
  have hf0 := h.ok.f0
  have hf1 := h.ok.f1
  have HD := hide h
  clear h
  unfold Dk.asked
  by_cases hz : d.fuse = 0
  · rw [if_pos hz, if_pos hz]
    rw [hz] at h4
    go_enter Try.func51, Try.ntmps51
    go_wp2
    go_ret
    exact ⟨rfl, (unhide HD).setOff true, (UpS.refl _ _).setCell (.inl (by simp)) _⟩
  · rw [if_neg hz, if_neg hz]
    by_cases hp : 0 < d.fuse
    · rw [if_pos hp]
      have hw : wrap64 (d.fuse - 1) = d.fuse - 1 := by go_unwrap
      go_enter Try.func51, Try.ntmps51
      go_wp2
      go_ret
      refine ⟨rfl, ?_, (UpS.refl _ _).setCell (.inl (by simp)) _⟩
      exact (unhide HD).setFuse _ (by omega) (by omega)
    · rw [if_neg hp]
      go_enter Try.func51, Try.ntmps51
      go_wp2
      go_ret
      exact ⟨rfl, unhide HD, UpS.refl _ _⟩
theorem rLight (h : RkX B u M v1 v2 d) (x : Int) (hx : x ≤ 9223372036854775807) : Calls Try.prog 45 #[.pointer (some ⟨M, 0, none⟩), .int .i64 x] u fun e u' => e = .returned (.tuple #[]) ∧ RkX B u' M v1 v2 (d.fused x) ∧ UpS u u' [M] := by
  have h4 := h.c3
  have h3 := h.c2
  have hz4 := h.fz 3
  have HD := hide h
  clear h
  unfold Dk.fused
  cases hd : d.off <;> rw [hd] at h3
  · rw [if_neg (by decide)]
    by_cases hp : -1 ≤ x
    · rw [Int.max_eq_left hp]
      go_enter Try.func45, Try.ntmps45
      go_wp2
      go_returns
      have hs := (unhide HD).setFuse x (by omega) (by omega)
      rw [hd] at hs
      exact ⟨rfl, hs, (UpS.refl _ _).setCell (.inl (by simp)) _⟩
    · rw [Int.max_eq_right (by omega)]
      go_enter Try.func45, Try.ntmps45
      go_wp2
      go_returns
      have hs := (unhide HD).setFuse (-1) (by omega) (by omega)
      rw [hd] at hs
      exact ⟨rfl, hs, (UpS.refl _ _).setCell (.inl (by simp)) _⟩
  · rw [if_pos rfl]
    go_enter Try.func45, Try.ntmps45
    go_wp2
    go_returns
    exact ⟨rfl, unhide HD, UpS.refl _ _⟩
theorem rPages (h : RkX B u M v1 v2 d) : Calls Try.prog 47 #[.pointer (some ⟨M, 0, none⟩)] u fun e u' => e = .returned (.int .i64 (d.lies.length : Int)) ∧ u' = u := by
  have h0 := h.c0
  obtain ⟨ao, c, rfl⟩ := ownsRow_len h.lies
  clear h
  go_enter Try.func47, Try.ntmps47
  go_wp2
  go_ret
  exact ⟨rfl, rfl⟩
theorem rThere (h : RkX B u M v1 v2 d) (x : Int) : Calls Try.prog 53 #[.pointer (some ⟨M, 0, none⟩), .int .i64 x] u fun e u' => e = .returned (.bool (decide (0 ≤ x ∧ x < (d.lies.length : Int)))) ∧ u' = u := by
  have h0 := h.c0
  obtain ⟨ao, c, rfl⟩ := ownsRow_len h.lies
  clear h
  generalize d.lies.length = n at *
  by_cases h1 : 0 ≤ x
  · by_cases h2 : x < (n : Int)
    · rw [decide_eq_true ⟨h1, h2⟩]
      go_enter Try.func53, Try.ntmps53
      go_wp2
      go_ret
      exact ⟨rfl, rfl⟩
    · rw [decide_eq_false (fun h => h2 h.2)]
      have h3 : (n : Int) ≤ x := by omega
      go_enter Try.func53, Try.ntmps53
      go_wp2
      go_ret
      exact ⟨rfl, rfl⟩
  · rw [decide_eq_false (fun h => h1 h.1)]
    have h3 : x < 0 := by omega
    go_enter Try.func53, Try.ntmps53
    go_wp2
    go_ret
    exact ⟨rfl, rfl⟩
end
end Go.Proofs.Ytfdibmbffmgikaa
