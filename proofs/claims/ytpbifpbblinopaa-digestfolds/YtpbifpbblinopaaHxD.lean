/- Hexadecimal digits back, by the program. -/
import Derived.Test.YtpbifpbblinopaaHxG
namespace Go.Proofs.Ytpbifpbblinopaa
open Go.RowKit

/-- the byte j behind i digits -/
def pb (c : Nat → Nat) : Nat → Nat → Nat
  | 0, _ => 0
  | i + 1, j => if j = i / 2 then (pb c i j * 16 % 256) ||| (dg (c i)).toNat else pb c i j
theorem pb_zero (c : Nat → Nat) (j i : Nat) (h : i ≤ 2 * j) : pb c i j = 0 := by
  induction i with
  | zero => rfl
  | succ i ih => rw [pb, if_neg (by omega), ih (by omega)]
theorem pb_stay (c : Nat → Nat) (j i : Nat) : pb c (2 * j + 2 + i) j = pb c (2 * j + 2) j := by
  induction i with
  | zero => rfl
  | succ i ih => rw [← Nat.add_assoc, pb, if_neg (by omega), ih]
theorem or_half (x y : Nat) (hy : y < 16) : (x * 16 % 256) ||| y = x % 16 * 16 + y := by
  have e : x * 16 % 256 = 2 ^ 4 * (x % 16) := by omega
  rw [e, ← Nat.two_pow_add_eq_or_of_lt (by omega)]
  omega
theorem dgN_lt (c : Nat) : (dg c).toNat < 16 := by have := dg_lt c; omega
theorem pb_vb (c : Nat → Nat) (j n : Nat) (hj : 2 * j + 2 ≤ n) : pb c n j = vb c j := by
  obtain ⟨d, rfl⟩ := Nat.exists_eq_add_of_le hj
  rw [pb_stay, pb, if_pos (by omega), pb, if_pos (by omega), pb_zero c j _ (Nat.le_refl _), or_half _ _ (dgN_lt _), or_half _ _ (dgN_lt _)]
  have := dgN_lt (c (2 * j))
  unfold vb; omega
theorem pb_lt (c : Nat → Nat) (i j : Nat) : pb c i j < 256 := by
  induction i with
  | zero => exact Nat.zero_lt_succ _
  | succ i ih =>
    rw [pb]
    split
    · exact Nat.or_lt_two_pow (n := 8) (Nat.mod_lt _ (by decide)) (Nat.lt_trans (dgN_lt _) (by decide))
    · exact ih
/-- a row of bytes -/
structure RowF (w wr : World) (X n : Nat) (f : Nat → Nat) : Prop where
  lt : X < wr.heap.size
  le : w.heap.size ≤ X
  cell : ∀ j, j < n → wr.cell? ⟨X, j, none⟩ = some (.int .u8 (f j : Nat))
  frozen : ∀ j, j < n → wr.frozen? ⟨X, j, none⟩ = false
  bel : Below w.heap.size w wr
theorem RowF.made (w : World) (n : Nat) : RowF w (w.alloc (.cells (madeCells #[.int .u8 0] n) 5)) w.heap.size n (fun _ => 0) where
  lt := by simp
  le := Nat.le_refl _
  cell := fun j hj => by
    rw [World.cell?_alloc_new]
    simp [madeCells, hj, Nat.mod_one]
  frozen := fun j hj => by rw [frozen?_alloc_cells]; simp [World.frozen?]
  bel := (Below.refl _ _).alloc (Nat.le_refl _) _
theorem RowF.upd {w wr : World} {X n k : Nat} {f f' : Nat → Nat} (h : RowF w wr X n f) (v : Value) (hv : v = .int .u8 (f' k : Nat)) (hk : k < n) (hf : ∀ j, j ≠ k → f' j = f j) : RowF w (wr.setCell ⟨X, k, none⟩ v) X n f' where
  lt := by simpa using h.lt
  le := h.le
  cell := fun j hj => by
    subst hv
    by_cases e : j = k
    · subst e; rw [World.cell?_setCell_same _ _ _ (h.cell j hj)]
    · rw [World.cell?_setCell_other _ _ _ _ (fun h => e (by cases h; rfl)), h.cell j hj, hf j e]
  frozen := fun j hj => by simpa using h.frozen j hj
  bel := ⟨h.bel.os, h.bel.tape, h.bel.output, by simpa [World.setCell] using h.bel.size, fun q hq => (Deep.blk_setCell_other wr ⟨X, k, none⟩ v q (by have := h.le; simp; omega)).trans (h.bel.block q hq)⟩
theorem rowf_run {w wr : World} {X n cap : Nat} {f : Nat → Nat} (h : RowF w wr X n f) (hf : ∀ j, f j < 256) : (convert 24 9 (.slice (some ⟨X, 0, none⟩) n cap)).run Try.prog wr = .ok (.string ⟨((List.range n).map fun j => UInt8.ofNat (f j)).toArray⟩) wr := by
  have := run_convert_bytes_back wr 24 9 5 ⟨X, 0, none⟩ cap ((List.range n).map fun j => UInt8.ofNat (f j)) Try.underlying24 Try.underlying5 Try.underlying9 fun j hj => by
    rw [List.length_map, List.length_range] at hj
    have hc := h.cell j hj
    have e : (⟨X, 0, none⟩ : Addr).add j = ⟨X, j, none⟩ := by cases j <;> simp [Addr.add]
    rw [e, hc]
    simp
    have := hf j
    omega
  simpa using this
set_option maxRecDepth 100000 in
set_option maxHeartbeats 1000000 in
theorem dFromHex (s : ByteArray) (w : World) (hs : s.size ≤ 140737488355328) :
    Calls Try.prog 34 #[.string s] w fun e w' => e = .returned (.tuple #[.string ⟨(fromR (ch s) s.size).1.toArray⟩, .int .i64 (fromR (ch s) s.size).2]) ∧ Below w.heap.size w w' := by
  obtain ⟨R, hR⟩ : ∃ R, R = fromR (ch s) s.size := ⟨_, rfl⟩
  rw [← hR]
  have HR := hide hR
  clear hR
  by_cases hodd : s.size % 2 = 0
  · obtain ⟨N, hN⟩ : ∃ N, N = s.size / 2 := ⟨_, rfl⟩
    have hb0 : ((s.size : Int) % 2 != 0) = false := by rw [bne_eq_false_iff_eq]; omega
    have hd : (s.size : Int).tdiv 2 = (N : Int) := by rw [Int.tdiv_eq_ediv_of_nonneg (by omega)]; omega
    have hd2 : (s.size : Int) / 2 = (N : Int) := by omega
    have hmk := run_make_row' (P := Try.prog) 24 5 (.int .u8 0) 1 Try.underlying24 infoU8 rfl .i64 .i64 N (by omega) (by omega)
    have HRW := hide (RowF.made w N)
    have HN := hide hN
    have HO := hide hodd
    clear hN hodd
    go_enter Try.func34, Try.ntmps34
    go_wp2
    clear hmk hb0 hd hd2
    go_loopw [17] (fun i wr => ∃ (k : Nat), k ≤ s.size ∧ i = .int .i64 k ∧ Hid (RowF w wr w.heap.size N (pb (ch s) k) ∧ ∀ j, j < k → 0 ≤ dg (ch s j))) (fun i _ => s.size + 1 - (intOf i).toNat)
    case atStart => exact ⟨0, Nat.zero_le _, rfl, hide ⟨unhide HRW, fun j hj => absurd hj (Nat.not_lt_zero _)⟩⟩
    case round =>
      clear HRW
      obtain ⟨k, hk, rfl, HI⟩ := hrel
      by_cases hlt : k < s.size
      · have hki : (k : Int) < (s.size : Int) := by omega
        have hx := s[k].toNat_lt
        have hc1 := ch_at s k hlt
        have M1 : Hid (∀ u, Calls Try.prog 44 #[.string ⟨#[48, 49, 50, 51, 52, 53, 54, 55, 56, 57, 97, 98, 99, 100, 101, 102]⟩, .int .u8 s[k].toNat] u fun e w' => e = .returned (.int .i64 (dg s[k].toNat)) ∧ w' = u) := by
          intro u
          have := Try.strings_IndexByte ⟨#[48, 49, 50, 51, 52, 53, 54, 55, 56, 57, 97, 98, 99, 100, 101, 102]⟩ (s[k].toNat : Int) u
          rw [← dg_index s[k].toNat hx]
          exact this
        by_cases h1 : dg s[k].toNat < 0
        · have HE : Hid (R = ([], 4)) := by
            show R = _
            rw [unhide HR, fromR, if_neg]
            rintro ⟨_, h2⟩
            have h3 := h2 k hlt
            rw [hc1] at h3
            omega
          clear hc1 hx
          generalize dg s[k].toNat = d1 at *
          go_wp2_with fail
          refine (unhide M1 _).mono ?_
          rintro e w1 ⟨rfl, rfl⟩
          go_wp2
          go_ret2
          exact ⟨by rw [unhide HE]; rfl, (unhide HI).1.bel⟩
        · obtain ⟨j, hj⟩ : ∃ j, j = k / 2 := ⟨_, rfl⟩
          have hjN : j < N := by have := unhide HN; have := unhide HO; omega
          have hjNi : (j : Int) < (N : Int) := by omega
          have q1 : (k : Int).tdiv 2 = (j : Int) := by rw [Int.tdiv_eq_ediv_of_nonneg (by omega)]; omega
          have q2 : (k : Int) / 2 = (j : Int) := by omega
          have hcl := (unhide HI).1.cell j hjN
          have hfz := (unhide HI).1.frozen j hjN
          have hxl := pb_lt (ch s) k j
          have hyl := dgN_lt s[k].toNat
          have hE : ∀ i, i ≠ j → pb (ch s) (k + 1) i = pb (ch s) k i := fun i hi => by rw [pb, if_neg (by omega)]
          obtain ⟨z, hz⟩ : ∃ z, z = (pb (ch s) k j * 16 % 256) ||| (dg s[k].toNat).toNat := ⟨_, rfl⟩
          have hZ : pb (ch s) (k + 1) j = z := by rw [pb, if_pos hj, hc1, hz]
          obtain ⟨f1, hf1⟩ : ∃ f1 : Nat → Nat, f1 = fun i => if i = j then pb (ch s) k j * 16 % 256 else pb (ch s) k i := ⟨_, rfl⟩
          have hf1j : f1 j = pb (ch s) k j * 16 % 256 := by rw [hf1]; simp
          have hf1o : ∀ i, i ≠ j → f1 i = pb (ch s) k i := fun i hi => by rw [hf1]; simp [hi]
          have hNX : ∀ v1 v2 : Value, v1 = .int .u8 ((pb (ch s) k j * 16 % 256 : Nat) : Int) → v2 = .int .u8 ((z : Nat) : Int) → RowF w ((wr.setCell ⟨w.heap.size, j, none⟩ v1).setCell ⟨w.heap.size, j, none⟩ v2) w.heap.size N (pb (ch s) (k + 1)) := by
            intro v1 v2 h1 h2
            exact RowF.upd (RowF.upd (f' := f1) (unhide HI).1 v1 (by rw [h1, hf1j]) hjN hf1o) v2 (by rw [h2, hZ]) hjN (fun i hi => by rw [hE i hi, hf1o i hi])
          have HNX := hide hNX
          have hAll : Hid (∀ i, i < k + 1 → 0 ≤ dg (ch s i)) := by
            intro i hi
            by_cases hik : i < k
            · exact (unhide HI).2 i hik
            · rw [show i = k from by omega, hc1]; omega
          clear hNX hE hZ hf1 hf1j hf1o hj hc1 hx
          obtain ⟨D, hD⟩ := Int.eq_ofNat_of_zero_le (by omega : 0 ≤ dg s[k].toNat)
          rw [hD] at M1 hz hyl
          simp only [Int.toNat_natCast] at hz hyl
          generalize pb (ch s) k j = x at *
          have eo : bits .or .u8 ((x : Int) * 16 % 256) (D : Int) = (z : Int) := by
            rw [show (x : Int) * 16 % 256 = ((x * 16 % 256 : Nat) : Int) from by omega, u8_or_nat _ _ (by omega) (by omega), hz]
          have hDi : (D : Int) % 256 = (D : Int) := by omega
          have hD16 : (D : Int) < 16 := by omega
          clear hz hyl h1 hD
          go_wp2_with fail
          refine (unhide M1 _).mono ?_
          rintro e w1 ⟨rfl, rfl⟩
          go_wp2
          go_roundw
          case rel =>
            refine ⟨k + 1, by omega, by go_num, hide ⟨unhide HNX _ _ ?_ ?_, unhide hAll⟩⟩
            · congr 1
            · rfl
          case measure => simp [intOf]; omega
      · have hkk : k = s.size := by omega
        subst hkk
        have HE : Hid (R = (val (ch s) N, 0)) := by
          show R = _
          rw [unhide HR, fromR, if_pos ⟨unhide HO, (unhide HI).2⟩, show s.size / 2 = N from (unhide HN).symm]
        have hrun := rowf_run (cap := N) (unhide HI).1 (pb_lt (ch s) s.size)
        have HV : Hid ((List.range N).map (fun j => UInt8.ofNat (pb (ch s) s.size j)) = val (ch s) N) := by
          show List.map _ _ = _
          unfold val
          refine List.map_congr_left fun j hj => ?_
          rw [List.mem_range] at hj
          rw [pb_vb (ch s) j s.size (by have := unhide HN; have := unhide HO; omega)]
        go_wp2
        go_ret2
        exact ⟨by rw [unhide HE, ← show _ = val (ch s) N from unhide HV]; rfl, (unhide HI).1.bel⟩
  · have hb0 : ((s.size : Int) % 2 != 0) = true := by rw [bne_iff_ne]; omega
    have HE : Hid (R = ([], 4)) := by
      show R = _
      rw [unhide HR, fromR, if_neg (fun h => hodd h.1)]
    go_enter Try.func34, Try.ntmps34
    go_wp2
    go_ret2
    exact ⟨by rw [unhide HE]; rfl, Below.refl _ _⟩
end Go.Proofs.Ytpbifpbblinopaa
