/- The fill behind a text: by the program. -/
import Derived.Test.YtpbifpbblinopaaFi
import Derived.Test.YtpbifpbblinopaaShK
namespace Go.Proofs.Ytpbifpbblinopaa
open Go.RowKit

/-- a row of bytes, all of its block -/
structure RowA (w wr : World) (X n : Nat) (f : Nat → Nat) (ts : Array Value) : Prop where
  size : ts.size = n
  at' : ∀ j, j < n → ts[j]? = some (.int .u8 (f j : Nat))
  row : wr.heap[X]? = some (.cells ts 5 (0, 0))
  le : w.heap.size ≤ X
  bel : Below w.heap.size w wr
theorem RowA.made (w : World) (n : Nat) : RowA w (w.alloc (.cells (madeCells #[.int .u8 0] n) 5)) w.heap.size n (fun _ => 0) (madeCells #[.int .u8 0] n) where
  size := by simp [madeCells]
  at' := fun j hj => by simp [madeCells, hj, Nat.mod_one]
  row := heap_alloc_new _ _
  le := Nat.le_refl _
  bel := (Below.refl _ _).alloc (Nat.le_refl _) _
theorem RowA.cell {w wr : World} {X n : Nat} {f : Nat → Nat} {ts : Array Value} (h : RowA w wr X n f ts) {j : Nat} (hj : j < n) : wr.cell? ⟨X, j, none⟩ = some (.int .u8 (f j : Nat)) := by
  simp [World.cell?, h.row, h.at' j hj]
theorem RowA.frozen {w wr : World} {X n : Nat} {f : Nat → Nat} {ts : Array Value} (h : RowA w wr X n f ts) (j : Nat) : wr.frozen? ⟨X, j, none⟩ = false := by
  simp [World.frozen?, h.row]
theorem RowA.upd {w wr : World} {X n k : Nat} {f f' : Nat → Nat} {ts : Array Value} (h : RowA w wr X n f ts) (v : Value) (hv : v = .int .u8 (f' k : Nat)) (hk : k < n) (hf : ∀ j, j < n → j ≠ k → f' j = f j) : RowA w (wr.setCell ⟨X, k, none⟩ v) X n f' (ts.setIfInBounds k v) := by
  subst hv
  refine ⟨by simpa using h.size, ?_, heapCell_same h.row _ _, h.le, belowCell h.bel h.le _⟩
  intro j hj
  rw [Array.getElem?_setIfInBounds]
  by_cases hjk : k = j
  · subst hjk; rw [if_pos rfl, if_pos (by rw [h.size]; exact hk)]
  · rw [if_neg hjk, hf j hj (fun e => hjk e.symm)]; exact h.at' j hj
theorem RowA.own {w wr : World} {X n : Nat} {f : Nat → Nat} {ts : Array Value} (h : RowA w wr X n f ts) (hn : n ≤ maxLen) (bs : List UInt8) (hl : bs.length = n) (hb : ∀ j, j < n → f j = (bs.getD j 0).toNat) : OwnB w wr (.slice (some ⟨X, 0, none⟩) n n) bs := by
  have e : ts.toList = Lib.byteCells bs := by
    apply List.ext_getElem?
    intro j
    by_cases hj : j < n
    · have h1 := h.at' j hj
      rw [Array.getElem?_toList, h1, hb j hj]
      have : j < bs.length := by omega
      simp [Lib.byteCells, this]
    · rw [List.getElem?_eq_none (by rw [Array.length_toList, h.size]; omega), List.getElem?_eq_none (by rw [bc_length]; omega)]
  subst hl
  refine ⟨⟨by rw [bc_length]; simp, .inr ⟨X, bs.length, ts, rfl, h.le, h.row, Nat.le_refl _, hn, by rw [h.size]; simp, ?_⟩⟩, h.bel⟩
  rw [← e, List.take_of_length_le (by rw [Array.length_toList, h.size]; simp)]
/-- the bytes of the fill, m bytes of the length told -/
def fb (B L m i : Nat) : Nat := if i = 0 then 128 else if L - 1 - i < m then B / 256 ^ (L - 1 - i) % 256 else 0
theorem fb_first (B L m : Nat) : fb B L m 0 = 128 := rfl
theorem fb_zero (B L i : Nat) (h : i ≠ 0) : fb B L 0 i = 0 := by unfold fb; rw [if_neg h, if_neg (by omega)]
theorem fb_done (B z m i : Nat) (hi : i < z + 9) (h0 : B / 256 ^ m = 0) (hm : m ≤ 8) : fb B (z + 9) m i = ((128 :: (List.replicate z 0 ++ Sha.be8 B) : List UInt8).getD i 0).toNat := by
  unfold fb
  by_cases hi0 : i = 0
  · subst hi0; rfl
  · rw [if_neg hi0]
    obtain ⟨j, rfl⟩ : ∃ j, i = j + 1 := ⟨i - 1, by omega⟩
    rw [List.getD_cons_succ, List.getD_eq_getElem?_getD]
    by_cases hz : j < z
    · rw [if_neg (by omega), List.getElem?_append_left (by simpa using hz)]
      simp [hz]
    · rw [List.getElem?_append_right (by simpa using Nat.le_of_not_lt hz), List.length_replicate, be8_at B (j - z) (by omega), Option.getD_some]
      have e : z + 9 - 1 - (j + 1) = 7 - (j - z) := by omega
      rw [e]
      by_cases h7 : 7 - (j - z) < m
      · rw [if_pos h7]; simp
      · rw [if_neg h7]
        have : B / 256 ^ (7 - (j - z)) = 0 := by
          have hp : 256 ^ m ≤ 256 ^ (7 - (j - z)) := Nat.pow_le_pow_right (by decide) (by omega)
          have hlt : B < 256 ^ m := by
            rcases Nat.div_eq_zero_iff.1 h0 with h | h
            · exact absurd h (Nat.pos_iff_ne_zero.1 (Nat.pow_pos (by decide)))
            · exact h
          exact Nat.div_eq_of_lt (Nat.lt_of_lt_of_le hlt hp)
        rw [this]; rfl
set_option maxRecDepth 100000 in
set_option maxHeartbeats 1000000 in
theorem dFill (n : Nat) (w : World) :
    Calls Try.prog 19 #[.int .u64 n] w fun e w' => ∃ v, e = .returned v ∧ OwnB w w' v (Sha.fill n) := by
  obtain ⟨z, hz⟩ : ∃ z, z = (119 - n % 64) % 64 := ⟨_, rfl⟩
  obtain ⟨B, hB⟩ : ∃ B, B = 8 * n % 18446744073709551616 := ⟨_, rfl⟩
  obtain ⟨L, hL⟩ : ∃ L, L = z + 9 := ⟨_, rfl⟩
  have hz1 : (55 - (n : Int)) % 18446744073709551616 % 64 = (z : Int) := by omega
  have hz2 : IntKind.u64.wrap (55 - (n : Int)) % 64 = (z : Int) := by rw [IntKind.wrap_u64]; exact hz1
  have hL1 : (z : Int) + 9 = (L : Int) := by omega
  have hz3 : (IntKind.u64.wrap (55 - (n : Int))).tmod 64 = (z : Int) := by rw [Int.tmod_eq_emod_of_nonneg (by rw [IntKind.wrap_u64]; omega)]; exact hz2
  have hLw : IntKind.u64.wrap (L : Int) = (L : Int) := by rw [IntKind.wrap_u64]; omega
  have hB1 : (n : Int) * 8 % 18446744073709551616 = (B : Int) := by omega
  have hB2 : IntKind.u64.wrap ((n : Int) * 8) = (B : Int) := by rw [IntKind.wrap_u64]; exact hB1
  have hBl : B < 18446744073709551616 := by omega
  have hL72 : L ≤ 72 := by omega
  have hL9 : 9 ≤ L := by omega
  have hz64 : z < 64 := by omega
  have HF : Hid (Sha.fill n = 128 :: (List.replicate z 0 ++ Sha.be8 B)) := by
    show Sha.fill n = _
    rw [Sha.fill, ← hz, ← hB]
  have HL := hide hL
  clear hz hB hL
  have hmk := run_make_row' (P := Try.prog) 24 5 (.int .u8 0) 1 Try.underlying24 infoU8 rfl .u64 .u64 L (by omega) (by omega)
  have HR := hide (RowA.made w L)
  have hc0 : (w.alloc (.cells (madeCells #[.int .u8 0] L) 5)).cell? ⟨w.heap.size, 0, none⟩ = some (.int .u8 ((0 : Nat) : Int)) := (unhide HR).cell (j := 0) (by omega)
  have hf0 := (unhide HR).frozen 0
  have HR2 : Hid (RowA w (w.alloc (.cells ((madeCells #[.int .u8 0] L).setIfInBounds 0 (.int .u8 128)) 5)) w.heap.size L (fb B L 0) ((madeCells #[.int .u8 0] L).setIfInBounds 0 (.int .u8 128))) := by
    have h := (unhide HR).upd (k := 0) (f' := fb B L 0) (.int .u8 128) rfl (by omega) (fun j _ hj => fb_zero B L j hj)
    exact ⟨h.size, h.at', heap_alloc_new _ _, Nat.le_refl _, (Below.refl _ _).alloc (Nat.le_refl _) _⟩
  have hL0 : (0 : Int) < (L : Int) := by omega
  go_enter Try.func19, Try.ntmps19
  go_wp2
  clear hmk hc0 hf0 hz1 hz2 hz3 hL1 hLw hB1 hB2
  go_loopw [5, 6] (fun x i wr => ∃ (m q : Nat), m ≤ 8 ∧ q + m + 1 = L ∧ x = .int .u64 (B / 256 ^ m : Nat) ∧ i = .int .i64 q ∧ Hid (∃ ts, RowA w wr w.heap.size L (fb B L m) ts)) (fun x _ _ => (intOf x).toNat)
  case atStart => exact ⟨0, L - 1, Nat.zero_le _, by omega, by simp, by congr 1; omega, hide ⟨_, unhide HR2⟩⟩
  case round =>
    clear HR HR2
    obtain ⟨m, q, hm, hq, rfl, rfl, HI⟩ := hrel
    by_cases h0 : B / 256 ^ m = 0
    · have HD : Hid (∀ i, i < L → fb B L m i = ((Sha.fill n).getD i 0).toNat) := by
        intro i hi
        rw [show Sha.fill n = _ from unhide HF, unhide HL]
        exact fb_done B z m i (by have := unhide HL; omega) h0 hm
      have HLN : Hid ((Sha.fill n).length = L) := by
        show List.length _ = _
        rw [show Sha.fill n = _ from unhide HF, unhide HL]
        simp [Sha.be8]
      rw [h0]
      go_wp2
      go_ret
      obtain ⟨ts, h⟩ := unhide HI
      exact ⟨_, rfl, h.own (by unfold maxLen; omega) _ (unhide HLN) (unhide HD)⟩
    · have hm8 : m < 8 := by
        rcases Nat.lt_or_ge m 8 with h | h
        · exact h
        · exfalso
          apply h0
          have : m = 8 := by omega
          subst this
          omega
      obtain ⟨ts, hr⟩ := unhide HI
      have hc := hr.cell (j := q) (by omega)
      have hf := hr.frozen q
      have hqL : (q : Int) < (L : Int) := by omega
      have hX : B / 256 ^ m < 18446744073709551616 := Nat.lt_of_le_of_lt (Nat.div_le_self _ _) hBl
      have HD : Hid (B / 256 ^ m / 256 = B / 256 ^ (m + 1)) := by
        show B / 256 ^ m / 256 = B / 256 ^ (m + 1)
        rw [Nat.div_div_eq_div_mul, ← Nat.pow_succ]
      have HN := hide (fun v hv => hr.upd (k := q) (f' := fb B L (m + 1)) v hv (by omega) (fun j hjL hj => by
        unfold fb
        by_cases hj0 : j = 0
        · rw [if_pos hj0, if_pos hj0]
        · rw [if_neg hj0, if_neg hj0]
          by_cases hjm : L - 1 - j < m
          · rw [if_pos hjm, if_pos (by omega)]
          · rw [if_neg hjm, if_neg (by omega)]))
      have hq0 : q ≠ 0 := by omega
      have HVV : Hid (fb B L (m + 1) q = B / 256 ^ m % 256) := by
        show fb B L (m + 1) q = _
        unfold fb
        rw [if_neg hq0, if_pos (by omega), show L - 1 - q = m from by omega]
      have HQ := hide hq
      have hq1 : 1 ≤ q := by omega
      have hqi : (1 : Int) ≤ (q : Int) := by omega
      clear hr hq HI
      generalize B / 256 ^ m = X at *
      obtain ⟨XI, hXe⟩ : ∃ XI : Int, XI = (X : Int) := ⟨_, rfl⟩
      rw [← hXe]
      have hXi : XI < 18446744073709551616 := by omega
      have hXp : 0 < XI := by omega
      have HXE := hide hXe
      clear hX h0 hBl hXe
      go_wp2
      go_roundw
      case rel =>
        have hq := unhide HQ
        refine ⟨m + 1, q - 1, by omega, by omega, by rw [← unhide HD, unhide HXE]; rfl, by congr 1; omega, hide ⟨_, unhide HN _ ?_⟩⟩
        rw [unhide HVV, unhide HXE]
        congr 1
      case measure => simp only [intOf]; omega
end Go.Proofs.Ytpbifpbblinopaa
