/- Clear; how many are in a set with none. -/
import Derived.Test.YtinfmomhbegfhaaDoorBm
import Derived.Lib.SliceRun
namespace Go.Proofs.YtinfmomhbegfhaaDoor
open Go.RowKit

/-- the cells that are laid over are there -/
theorem heap_laid {g : Nat} {t : TypeId} {fr : Nat × Nat} : ∀ (vs : List Value) (o : Nat) (w : World) (cur : Array Value), w.heap[g]? = some (.cells cur t fr) → o + vs.length ≤ cur.size →
    ∃ cur', (w.setCells g o vs).heap[g]? = some (.cells cur' t fr) ∧ cur'.size = cur.size ∧ (∀ j, j < o → cur'[j]? = cur[j]?) ∧ (∀ j (hj : j < vs.length), cur'[o + j]? = some vs[j])
  | [], o, w, cur, h, _ => ⟨cur, by simpa [World.setCells] using h, rfl, fun _ _ => rfl, fun j hj => absurd hj (by simp)⟩
  | v :: r, o, w, cur, h, hl => by
    simp only [List.length_cons] at hl
    obtain ⟨c', h1, h2, h3, h4⟩ := heap_laid r (o + 1) (w.setCell ⟨g, o, none⟩ v) (cur.setIfInBounds o v) (heapCell_same h o v) (by simp; omega)
    refine ⟨c', by rw [World.setCells]; exact h1, by rw [h2]; simp, fun j hj => ?_, fun j hj => ?_⟩
    · rw [h3 j (by omega), Array.getElem?_setIfInBounds, if_neg (by omega)]
    · match j, hj with
      | 0, _ =>
        rw [Nat.add_zero, h3 o (by omega), Array.getElem?_setIfInBounds, if_pos rfl, if_pos (by omega)]
        rfl
      | j + 1, hj =>
        have := h4 j (by simpa using hj)
        rw [show o + (j + 1) = o + 1 + j from by omega, this]
        rfl
theorem U1.cells {w : World} {g : Nat} : ∀ (vs : List Value) (o : Nat) (w' : World), U1 w w' g → U1 w (w'.setCells g o vs) g
  | [], _, _, h => h
  | v :: r, o, _, h => U1.cells r (o + 1) _ (h.set o v)
theorem Bm.clear {w : World} {p q n S : Nat} (h : Bm w p q n S) : Bm (w.setCells q 0 (List.replicate ((n + 63) / 64) (.int .u64 0))) p q n 0 := by
  obtain ⟨cap, h1⟩ := h.bq.hd
  obtain ⟨cs, h2, h3⟩ := h.bq.row
  have hsz : (n + 63) / 64 ≤ cs.size := by
    rcases Nat.lt_or_ge 0 ((n + 63) / 64) with h0 | h0
    · have := (Array.getElem?_eq_some_iff.1 (h3 ((n + 63) / 64 - 1) (by omega))).1; omega
    · omega
  obtain ⟨c', k1, _, _, k4⟩ := heap_laid (List.replicate ((n + 63) / 64) (.int .u64 0)) 0 w cs h2 (by simpa using hsz)
  have hu := U1.cells (w := w) (g := q) (List.replicate ((n + 63) / 64) (.int .u64 0)) 0 w (U1.refl _ _)
  refine ⟨⟨⟨cap, (hu.block p h.plt h.bq.ne).trans h1⟩, ⟨c', k1, fun i hi => ?_⟩, h.bq.ne, h.le⟩, Nat.pow_pos (by decide)⟩
  have := k4 i (by simpa using hi)
  rw [Nat.zero_add] at this
  rw [this, Bit.word_zero]
  simp
theorem bClear {p q n S : Nat} {w : World} (h : Bm w p q n S) : Calls Tryd.prog 26 #[.pointer (some ⟨p, 0, none⟩)] w fun e w' => e = .returned (.tuple #[]) ∧ Bm w' p q n 0 ∧ U1 w w' q := by
  obtain ⟨cap, h1⟩ := h.c1
  have HN := hide h.clear
  have HU := hide (U1.cells (w := w) (g := q) (List.replicate ((n + 63) / 64) (.int .u64 0)) 0 w (U1.refl _ _))
  have hzv : ∀ u : World, (zeroValue 69).run Tryd.prog u = .ok (.int .u64 0) u := fun u => by kernel_rfl
  have HCL : Hid (0 < (n + 63) / 64 → ∀ ty, (Builtin.clear_ #[66] ty #[.slice (some ⟨q, 0, none⟩) ((n + 63) / 64) cap]).run Tryd.prog w = .ok (.tuple #[]) (w.setCells q 0 (List.replicate ((n + 63) / 64) (.int .u64 0)))) := fun h0 ty =>
    Lib.run_clear_slice w 66 69 ty (.int .u64 0) Tryd.underlying66 hzv rfl rfl q 0 _ cap h0 (fun j hj => by rw [Nat.zero_add, h.w j hj]; rfl) (fun j _ => h.fz _)
  have HH := hide h
  have hle := h.le
  obtain ⟨m, hm⟩ : ∃ m, m = (n + 63) / 64 := ⟨_, rfl⟩
  rw [← hm] at h1 HN HU HCL
  clear h hm
  by_cases h0 : m = 0
  · subst h0
    have hcl : ∀ ty, (Builtin.clear_ #[66] ty #[.slice (some ⟨q, 0, none⟩) 0 cap]).run Tryd.prog w = .ok (.tuple #[]) w := fun ty => by kernel_rfl
    go_enter Tryd.func26, Tryd.ntmps26
    go_wp2
    go_returns
    exact ⟨rfl, unhide HN, unhide HU⟩
  · have hcl := unhide HCL (by omega)
    clear HCL
    go_enter Tryd.func26, Tryd.ntmps26
    go_wp2
    go_returns
    exact ⟨rfl, unhide HN, unhide HU⟩
theorem bCount0 {p q n : Nat} {w : World} (h : Bm w p q n 0) : Calls Tryd.prog 21 #[.pointer (some ⟨p, 0, none⟩)] w fun e w' => e = .returned (.int .i64 0) ∧ w' = w := by
  obtain ⟨cap, h1⟩ := h.c1
  have hle := h.le
  have HW : Hid (∀ i, i < (n + 63) / 64 → w.cell? ⟨q, i, none⟩ = some (.int .u64 0)) := fun i hi => by have := h.w i hi; rwa [Bit.word_zero] at this
  obtain ⟨m, hm⟩ : ∃ m, m = (n + 63) / 64 := ⟨_, rfl⟩
  have hm2 : m ≤ 1024 := by omega
  rw [← hm] at h1 HW
  clear h hm
  go_enter Tryd.func21, Tryd.ntmps21
  go_wp2
  go_loopw [3, 13] (fun y i wr => ∃ k : Nat, k ≤ m ∧ i = .int .i64 k ∧ y = .int .i64 0 ∧ wr = w) (fun _ i _ => m - (intOf i).toNat)
  case atStart => exact ⟨0, Nat.zero_le _, rfl, rfl, rfl⟩
  case round =>
    obtain ⟨k, hk, rfl, rfl, rfl⟩ := hrel
    by_cases hlt : k < m
    · have h2 := unhide HW k hlt
      have hki : (k : Int) < (m : Int) := by omega
      go_wp2
      go_roundw
      case rel => exact ⟨k + 1, by omega, by go_num, by kernel_rfl, trivial⟩
      case measure => simp [intOf]; omega
    · have hkk : k = m := by omega
      subst hkk
      go_wp2
      go_ret
      exact ⟨rfl, rfl⟩
end Go.Proofs.YtinfmomhbegfhaaDoor
