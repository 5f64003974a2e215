/- A set as bytes. -/
import Derived.Test.YtinfmomhbegfhaaDoorBm
namespace Go.Proofs.YtinfmomhbegfhaaDoor
open Go.RowKit

theorem infoU8 : (Tryd.prog.info? 5).map (fun i => (i.zero, i.size, i.bytes)) = some (some (.int .u8 0), 1, 1) := by kernel_rfl
/-- a row of bytes -/
structure RowF (w wr : World) (X n : Nat) (f : Nat → Nat) : Prop where
  lt : X < wr.heap.size
  le : w.heap.size ≤ X
  cell : ∀ j, j < n → wr.cell? ⟨X, j, none⟩ = some (.int .u8 (f j : Nat))
  frozen : ∀ j, j < n → wr.frozen? ⟨X, j, none⟩ = false
  bel : Below w.heap.size w wr
theorem RowF.made (w : World) (n : Nat) : RowF w (w.alloc (.cells (madeCells #[.int .u8 0] n) 5)) w.heap.size n (fun _ => 0) where
  lt := by simp
  le := Nat.le_refl _
  cell := fun j hj => by
    rw [World.cell?_alloc_new]
    simp [madeCells, hj, Nat.mod_one]
  frozen := fun j hj => by rw [frozen?_alloc_cells]; simp [World.frozen?]
  bel := (Below.refl _ _).alloc (Nat.le_refl _) _
theorem RowF.upd {w wr : World} {X n k : Nat} {f f' : Nat → Nat} (h : RowF w wr X n f) (v : Value) (hv : v = .int .u8 (f' k : Nat)) (hk : k < n) (hf : ∀ j, j ≠ k → f' j = f j) : RowF w (wr.setCell ⟨X, k, none⟩ v) X n f' where
  lt := by simpa using h.lt
  le := h.le
  cell := fun j hj => by
    subst hv
    by_cases e : j = k
    · subst e; rw [World.cell?_setCell_same _ _ _ (h.cell j hj)]
    · rw [World.cell?_setCell_other _ _ _ _ (fun h => e (by cases h; rfl)), h.cell j hj, hf j e]
  frozen := fun j hj => by simpa using h.frozen j hj
  bel := ⟨h.bel.os, h.bel.tape, h.bel.output, by simpa [World.setCell] using h.bel.size, fun q hq => (Deep.blk_setCell_other wr ⟨X, k, none⟩ v q (by have := h.le; simp; omega)).trans (h.bel.block q hq)⟩
theorem rowf_run {w wr : World} {X n cap : Nat} {f : Nat → Nat} (h : RowF w wr X n f) (hf : ∀ j, f j < 256) : (convert 65 9 (.slice (some ⟨X, 0, none⟩) n cap)).run Tryd.prog wr = .ok (.string ⟨((List.range n).map fun j => UInt8.ofNat (f j)).toArray⟩) wr := by
  have := run_convert_bytes_back wr 65 9 5 ⟨X, 0, none⟩ cap ((List.range n).map fun j => UInt8.ofNat (f j)) Tryd.underlying65 Tryd.underlying5 Tryd.underlying9 fun j hj => by
    rw [List.length_map, List.length_range] at hj
    have hc := h.cell j hj
    have e : (⟨X, 0, none⟩ : Addr).add j = ⟨X, j, none⟩ := by cases j <;> simp [Addr.add]
    rw [e, hc]
    simp
    have := hf j
    omega
  simpa using this

/-- the bytes, k of them laid -/
def tb (S k j : Nat) : Nat := if j < k then Bit.byte S j else 0
theorem tb_lt (S k j : Nat) : tb S k j < 256 := by unfold tb; split; exact Bit.byte_lt S j; decide
theorem bTold {p q n S : Nat} {w : World} (h : Bm w p q n S) : Calls Tryd.prog 9 #[.pointer (some ⟨p, 0, none⟩)] w fun e w' => e = .returned (.string ⟨(Bit.told S n).toArray⟩) ∧ Below w.heap.size w w' := by
  obtain ⟨L, hL⟩ : ∃ L, L = (n + 7) / 8 := ⟨_, rfl⟩
  have hle := h.le
  have hL2 : L ≤ 8192 := by omega
  have HB := hide (fun u => bBytesOf n (by omega) u)
  rw [← hL] at HB
  have hmk := run_make_row' (P := Tryd.prog) 65 5 (.int .u8 0) 1 Tryd.underlying65 infoU8 rfl .i64 .i64 L (by omega) (by omega)
  have HR := hide (RowF.made w L)
  have HH := hide h
  have HL := hide hL
  have h0 := h.c0
  clear h hL
  go_enter Tryd.func9, Tryd.ntmps9
  go_wp2_with (go_at_call 39; refine (unhide HB _).mono ?_; rintro e w1 ⟨rfl, hw1⟩; obtain rfl := hw1.symm)
  clear hmk
  go_loopw [15] (fun i wr => ∃ k : Nat, k ≤ L ∧ i = .int .i64 k ∧ Hid (RowF w wr w.heap.size L (tb S k))) (fun i _ => L - (intOf i).toNat)
  case atStart => exact ⟨0, Nat.zero_le _, rfl, HR⟩
  case round =>
    clear HR
    obtain ⟨k, hk, rfl, HI⟩ := hrel
    have HM : Hid (Bm wr p q n S) := (unhide HH).below (unhide HI).bel
    by_cases hlt : k < L
    · have hL := unhide HL
      have hc := (unhide HI).cell k hlt
      have hf := (unhide HI).frozen k hlt
      obtain ⟨cw, h1⟩ := (unhide HM).c1
      have h2 := (unhide HM).w (k / 8) (by omega)
      have hW := Bit.word_lt S (k / 8)
      have HV : Hid (Bit.word S (k / 8) / 2 ^ (k % 8 * 8) % 256 = Bit.byte S k) := Bit.byte_word S k
      have HN : Hid (∀ v, v = Value.int .u8 (Bit.byte S k : Nat) → RowF w (wr.setCell ⟨w.heap.size, k, none⟩ v) w.heap.size L (tb S (k + 1))) := fun v hv => by
        refine (unhide HI).upd v (by rw [hv, tb, if_pos (by omega)]) hlt fun j hj => ?_
        unfold tb
        by_cases e : j < k
        · rw [if_pos e, if_pos (by omega)]
        · rw [if_neg e, if_neg (by omega)]
      generalize Bit.word S (k / 8) = W at *
      obtain ⟨m, hm⟩ : ∃ m, m = (n + 63) / 64 := ⟨_, rfl⟩
      obtain ⟨a, ha⟩ : ∃ a, a = k / 8 := ⟨_, rfl⟩
      obtain ⟨r, hr⟩ : ∃ r, r = k % 8 := ⟨_, rfl⟩
      rw [← hm] at h1
      rw [← ha] at h2
      rw [← hr] at HV
      have e1 : (k : Int) / 8 = (a : Int) := by omega
      have e2 : (k : Int) % 8 = (r : Int) := by omega
      have hki : (k : Int) < (L : Int) := by omega
      have ham : (a : Int) < (m : Int) := by omega
      have ha2 : a < 1024 := by omega
      have hr2 : r < 8 := by omega
      clear HI hL hm ha hr HM hlt
      go_wp2
      go_roundw
      case rel => exact ⟨k + 1, by omega, by go_num, hide (unhide HN _ (by rw [← unhide HV]; simp))⟩
      case measure => simp [intOf]; omega
    · have hkk : k = L := by omega
      subst hkk
      have HC := hide (rowf_run (cap := k) (unhide HI) (tb_lt S k))
      have HT : Hid (((List.range k).map fun j => UInt8.ofNat (tb S k j)) = Bit.told S n) := by
        show _ = _
        unfold Bit.told
        rw [← unhide HL]
        apply List.map_congr_left
        intro j hj
        rw [tb, if_pos (List.mem_range.1 hj)]
      rw [unhide HT] at HC
      have hcv := unhide HC
      have HB := hide (unhide HI).bel
      clear HC HI HM
      go_wp2
      go_ret
      exact ⟨rfl, unhide HB⟩
end Go.Proofs.YtinfmomhbegfhaaDoor
