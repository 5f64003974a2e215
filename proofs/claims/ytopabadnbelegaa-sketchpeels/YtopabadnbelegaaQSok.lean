/- Sorting numbers of 64 bits: the generator, breakPatterns. -/
import Derived.Test.YtopabadnbelegaaQSoj
namespace Go.Proofs.Ytopabadnbelegaa.K
open Go.RowKit Go.Lib
theorem set2 (w : World) (b o : Nat) (v v' : Value) : (w.setCell ⟨b, o, none⟩ v).setCell ⟨b, o, none⟩ v' = w.setCell ⟨b, o, none⟩ v' := by
  unfold World.setCell
  dsimp only
  congr 1
  apply Array.ext_getElem?
  intro j
  rw [Array.getElem?_modify, Array.getElem?_modify, Array.getElem?_modify]
  by_cases e : b = j
  · rw [if_pos e, if_pos e, if_pos e]
    cases w.heap[j]? with
    | none => rfl
    | some x => cases x <;> simp
  · rw [if_neg e, if_neg e, if_neg e]
theorem kNext (q X : Nat) (hX : X < 18446744073709551616) (u : World) (hc : u.cell? ⟨q, 0, none⟩ = some (.int .u64 (X : Int))) (hf : u.frozen? ⟨q, 0, none⟩ = false) :
    Calls Try.prog 74 #[.pointer (some ⟨q, 0, none⟩)] u fun e u' => e = .returned (.int .u64 (Sort.xorNextN X : Nat)) ∧ u' = (u.setCell ⟨q, 0, none⟩ (.int .u64 (Sort.xorNextN X : Nat))).drewN 3 := by
  obtain ⟨A, hA⟩ : ∃ A : Nat, A = X ^^^ (X * 8192 % 18446744073709551616) := ⟨_, rfl⟩
  obtain ⟨B, hB⟩ : ∃ B : Nat, B = A ^^^ (A / 128) := ⟨_, rfl⟩
  obtain ⟨C, hC⟩ : ∃ C : Nat, C = B ^^^ (B * 131072 % 18446744073709551616) := ⟨_, rfl⟩
  have hv : Sort.xorNextN X = C := by unfold Sort.xorNextN; simp only []; rw [hC, hB, hA]
  have lA : A < 18446744073709551616 := by rw [hA]; exact Nat.xor_lt_two_pow (n := 64) (by omega) (by omega)
  have lB : B < 18446744073709551616 := by rw [hB]; exact Nat.xor_lt_two_pow (n := 64) (by omega) (by omega)
  have e1 : bits .xor .u64 (X : Int) (IntKind.u64.wrap ((X : Int) * 8192)) = (A : Int) := by
    rw [show ((X : Int) * 8192) = ((X * 8192 : Nat) : Int) by omega, u64n, u64_xor_nat _ _ hX (by omega), hA]
  have e2 : bits .xor .u64 (A : Int) ((A : Int) / 128) = (B : Int) := by
    rw [show ((A : Int) / 128) = ((A / 128 : Nat) : Int) by omega, u64_xor_nat _ _ lA (by omega), hB]
  have e3 : bits .xor .u64 (B : Int) (IntKind.u64.wrap ((B : Int) * 131072)) = (C : Int) := by
    rw [show ((B : Int) * 131072) = ((B * 131072 : Nat) : Int) by omega, u64n, u64_xor_nat _ _ lB (by omega), hC]
  have hs := set2 u q 0
  rw [hv]
  clear hA hB hC hv
  go_enter Try.func74, Try.ntmps74
  go_wp2
  go_region
  all_goals go_wp2
  all_goals go_region
  all_goals go_wp2
  all_goals go_region
  all_goals go_wp2
  go_ret
  exact ⟨rfl, rfl⟩
/-- a row under way, the generator's state in a new block -/
structure Sr (u w : World) (g q : Nat) (t : TypeId) (N : Nat) (d : Array (BitVec 64)) (X : Nat) : Prop where
  so : So u w g t N d
  old : u.heap.size ≤ q
  ne : g ≠ q
  cell : w.cell? ⟨q, 0, none⟩ = some (.int .u64 (X : Int))
  frz : w.frozen? ⟨q, 0, none⟩ = false
theorem Alt.far {u w : World} {g q : Nat} (h : Alt u w g) (hq : u.heap.size ≤ q) (k : Nat) (v : Value) : Alt u (w.setCell ⟨q, k, none⟩ v) g :=
  ⟨h.os, h.tape, h.output, by simpa [World.setCell] using h.size, fun i hi hg => (hcOther (by omega)).trans (h.block i hi hg)⟩
theorem Sr.next {u w : World} {g q N X : Nat} {t : TypeId} {d : Array (BitVec 64)} (h : Sr u w g q t N d X) (Y z : Nat) : Sr u ((w.setCell ⟨q, 0, none⟩ (.int .u64 (Y : Int))).drewN z) g q t N d Y := by
  refine ⟨⟨(h.so.rw'.alt ((Alt.refl w q).cell 0 _) h.ne).drewN z, (h.so.alt.far h.old 0 _).drewN z⟩, h.old, h.ne, ?_, ?_⟩
  · exact World.cell?_setCell_same _ _ _ h.cell
  · have := h.frz
    simpa using this
theorem Sr.drew {u w : World} {g q N X : Nat} {t : TypeId} {d : Array (BitVec 64)} (h : Sr u w g q t N d X) : Sr u w.drew g q t N d X := ⟨h.so.drew, h.old, h.ne, h.cell, h.frz⟩
theorem Sr.swap {u w : World} {g q N X : Nat} {t : TypeId} {d : Array (BitVec 64)} (h : Sr u w g q t N d X) (i j : Nat) (hi : i < d.size) (hj : j < d.size) : Sr u ((w.setCell ⟨g, i, none⟩ (.int .u64 (d[j]!).toNat)).setCell ⟨g, j, none⟩ (.int .u64 (d[i]!).toNat)) g q t N (Sort.swp d i j) X := by
  refine ⟨h.so.swap i j hi hj, h.old, h.ne, ?_, ?_⟩
  · have h1 := h.cell
    rw [World.cell?_setCell_other, World.cell?_setCell_other]
    · exact h1
    · exact fun e => h.ne (congrArg Addr.block e)
    · exact fun e => h.ne (congrArg Addr.block e)
  · have := h.frz
    simpa using this
theorem Sr.new {u : World} {g N X : Nat} {t : TypeId} {d : Array (BitVec 64)} (h : Rw u g t N d) (x : TypeId) : Sr u (u.alloc (.cells #[.int .u64 (X : Int)] x)) g u.heap.size t N d X := by
  have hg := h.lt
  have hx := heap_alloc_new u (.cells #[.int .u64 (X : Int)] x)
  refine ⟨⟨?_, Alt.of g ((Below.refl u.heap.size u).alloc (Nat.le_refl _) _)⟩, Nat.le_refl _, by omega, ?_, ?_⟩
  · obtain ⟨cs, h1, h2, h3⟩ := h.row
    exact ⟨cs, heapOld _ h1, h2, h3⟩
  · exact S.arr_cell hx rfl
  · exact frz0 hx 0
/-- what so many rounds make -/
def brR (a L M : Nat) : Nat → Nat → UInt64 × Array (BitVec 64) → Array (BitVec 64)
  | 0, _, st => st.2
  | k + 1, i, st => brR a L M k (i + 1) (Sort.breakStep a L M st i)
theorem br_eq (d : Array (BitVec 64)) (a b L : Nat) (hL : L = b - a) (h8 : 8 ≤ L) : Sort.breakPatterns d a b = brR a L (1 <<< Sort.bitsLen L) 3 (a + L / 4 * 2 - 1) (UInt64.ofNat L, d) := by
  subst hL
  unfold Sort.breakPatterns
  simp only []
  rw [if_pos h8]
  rfl
theorem br_no (d : Array (BitVec 64)) (a b : Nat) (h8 : ¬ b - a ≥ 8) : Sort.breakPatterns d a b = d := by
  unfold Sort.breakPatterns
  simp only []
  rw [if_neg h8]
theorem br_go (a L M k i o : Nat) (r : UInt64) (d : Array (BitVec 64)) (ho : (if (Sort.xorNext r).toNat &&& (M - 1) ≥ L then ((Sort.xorNext r).toNat &&& (M - 1)) - L else (Sort.xorNext r).toNat &&& (M - 1)) = o) :
    brR a L M (k + 1) i (r, d) = brR a L M k (i + 1) (Sort.xorNext r, Sort.swp d i (a + o)) := by
  rw [brR]
  unfold Sort.breakStep
  simp only [ho]
theorem Rw.same {u w : World} {g N : Nat} {t : TypeId} {d : Array (BitVec 64)} (h : Rw u g t N d) (e : w.heap[g]? = u.heap[g]?) : Rw w g t N d := by
  obtain ⟨cs, h1, h2, h3⟩ := h.row
  exact ⟨cs, e.trans h1, h2, h3⟩
set_option maxRecDepth 100000 in
set_option maxHeartbeats 4000000 in
theorem kBrk (g c a b n N : Nat) (t : TypeId) (d : Array (BitVec 64)) (u : World) (h : Rw u g t N d) (hn : n = d.size) (hab : a < b) (hb : b ≤ n) (hm : n < 65536) : Calls Try.prog 57 #[.slice (some ⟨g, 0, none⟩) n c, .int .i64 (a : Int), .int .i64 (b : Int)] u fun e u' => e = .returned (.tuple #[]) ∧ So u u' g t N (Sort.breakPatterns d a b) := by
  obtain ⟨L, hL⟩ : ∃ L, L = b - a := ⟨_, rfl⟩
  have hLi : (b : Int) - (a : Int) = (L : Int) := by omega
  have hLb : (L : Int) ≤ 65536 := by omega
  have hai : (a : Int) ≤ 65536 := by omega
  have hbi : (b : Int) ≤ 65536 := by omega
  by_cases h8 : L ≥ 8
  · have h8i : (L : Int) ≥ 8 := by omega
    obtain ⟨Q, hQ⟩ : ∃ Q, Q = L / 4 := ⟨_, rfl⟩
    have hq4 : (L : Int).tdiv 4 = (Q : Int) := by rw [Int.tdiv_eq_ediv_of_nonneg (by omega)]; omega
    have hQb : (Q : Int) ≤ 65536 := by omega
    obtain ⟨i0, hi0⟩ : ∃ i0, i0 = a + Q * 2 - 1 := ⟨_, rfl⟩
    obtain ⟨e0, he0⟩ : ∃ e0, e0 = i0 + 3 := ⟨_, rfl⟩
    have hq2 : IntKind.i64.wrap ((a : Int) + (Q : Int) * 2) = (a : Int) + (Q : Int) * 2 := by rw [IntKind.wrap_i64]; omega
    have hq5 : IntKind.i64.wrap ((a : Int) + (Q : Int) * 2 + 1) = (a : Int) + (Q : Int) * 2 + 1 := by rw [IntKind.wrap_i64]; omega
    have hq6 : IntKind.i64.wrap ((a : Int) + (Q : Int) * 2 - 1) = (a : Int) + (Q : Int) * 2 - 1 := by rw [IntKind.wrap_i64]; omega
    have HI0 : Hid ((a : Int) + (Q : Int) * 2 - 1 = (i0 : Int)) := by show _ = _; omega
    have HE0 : Hid (i0 + 3 = e0 ∧ e0 ≤ b ∧ a + Q * 2 + 2 = e0) := ⟨by omega, by omega, by omega⟩
    obtain ⟨M, hM⟩ : ∃ M : Nat, M = 1 <<< Sort.bitsLen L := ⟨_, rfl⟩
    have hM1 : (M : Int) ≥ 1 := by
      have : 1 ≤ M := by rw [hM, Nat.one_shiftLeft]; exact Nat.two_pow_pos _
      omega
    have hM2 : M ≤ 2 * L := by rw [hM, Nat.one_shiftLeft]; exact Sort.two_pow_bitsLen_le (by omega)
    have HM2 := hide hM2
    have hMb : (M : Int) ≤ 131072 := by omega
    have HP := hide (fun w => kPow L (by omega) w)
    rw [← hM] at HP
    have HBQ := br_eq d a b L hL h8
    rw [← hM, ← hQ, ← hi0] at HBQ
    have HI := hide (fun i (hi : i < n) => ixW g n c i hi)
    have HZ0 : Hid (d.size = n) := hn.symm
    have HB := hide hb
    have HLL := hide hL
    have HS0 := hide (Sr.new (X := L) h 114)
    have HLN : Hid ((UInt64.ofNat L).toNat = L) := by show _ = _; simp; omega
    rw [HBQ]
    have HG : Hid (∀ k i (dk : Array (BitVec 64)) r, brR a L M k i (r, dk) = brR a L M k i (r, dk)) := fun _ _ _ _ => rfl
    clear h hn hab hb hm hL hQ hi0 he0 hM hM2 h8 HBQ
    go_enter Try.func57, Try.ntmps57
    go_wp2_with (first
      | (go_at_call 73; refine (unhide HP _).mono ?_; rintro e wq ⟨rfl, hwq⟩; obtain rfl := hwq.symm)
      | fail)
    rw [unhide HI0]
    go_loopw [9] (fun s9 wr => ∃ (k i : Nat) (r : UInt64) (dk : Array (BitVec 64)), s9 = .int .i64 (i : Int) ∧ Hid (i + k = e0) ∧ Hid (dk.size = n) ∧ Sr u wr g u.heap.size t N dk r.toNat ∧ Hid (brR a L M k i (r, dk) = brR a L M 3 i0 (UInt64.ofNat L, d))) (fun s9 _ => e0 - (intOf s9).toNat)
    case atStart => exact ⟨3, i0, UInt64.ofNat L, d, rfl, (unhide HE0).1, HZ0, by rw [unhide HLN]; exact unhide HS0, rfl⟩
    case round =>
      clear HS0 HP
      obtain ⟨k, i, r, dk, rfl, HIE, HZ, HS1, HO⟩ := hrel
      have HS := hide HS1
      clear HS1
      rcases k with _ | k
      · have hie : ¬ (i : Int) ≤ (a : Int) + (Q : Int) * 2 + 1 := by have := unhide HIE; have := unhide HE0; omega
        go_wp2
        go_returns
        refine ⟨rfl, ?_⟩
        rw [← unhide HO]
        exact (unhide HS).so
      · have hie : (i : Int) ≤ (a : Int) + (Q : Int) * 2 + 1 := by have := unhide HIE; have := unhide HE0; omega
        have HE2 : Hid (i + 1 + k = e0) := by have := unhide HIE; show _ = _; omega
        have hz1 : i < dk.size := by rw [unhide HZ]; have := unhide HIE; have := unhide HE0; have := unhide HB; omega
        obtain ⟨ca, fa⟩ := (unhide HS).so.rw'.cell i hz1
        have ixa := unhide HI i (by rw [unhide HZ] at hz1; exact hz1)
        obtain ⟨R, hR⟩ : ∃ R : Nat, R = r.toNat := ⟨_, rfl⟩
        have lR : R < 18446744073709551616 := by rw [hR]; exact r.toNat_lt
        obtain ⟨R2, hR2⟩ : ∃ R2 : Nat, R2 = Sort.xorNextN R := ⟨_, rfl⟩
        have hR3 : R2 = (Sort.xorNext r).toNat := by rw [hR2, hR, Sort.xorNext_toNat]
        have lR2 : R2 < 18446744073709551616 := by rw [hR2]; exact Sort.xorNextN_lt R lR
        obtain ⟨O, hO⟩ : ∃ O : Nat, O = R2 &&& (M - 1) := ⟨_, rfl⟩
        have lO : O ≤ M - 1 := by rw [hO]; exact Nat.and_le_right
        have eAnd : bits .and .u64 (R2 : Int) ((M : Int) - 1) = (O : Int) := by
          rw [show ((M : Int) - 1) = ((M - 1 : Nat) : Int) by omega, u64_and_nat _ _ lR2 (by omega), hO]
        have hOb : (O : Int) ≤ 131072 := by omega
        have HLO : Hid (O < 2 * L) := by have := unhide HM2; show _ < _; omega
        rw [← hR] at HS
        have HNX := hide (kNext u.heap.size R lR wr (unhide HS).cell (unhide HS).frz)
        rw [← hR2] at HNX
        have HX := hide (fun z => (unhide HS).next R2 z)
        have HO1 : Hid (O = (Sort.xorNext r).toNat &&& (M - 1)) := by show _ = _; rw [hO, hR3]
        have HR3 := hide hR3
        clear hR hR2 hR3 hO lO
        by_cases hOL : O ≥ L
        · have hOLi : (O : Int) ≥ (L : Int) := by omega
          obtain ⟨O2, hO2⟩ : ∃ O2, O2 = O - L := ⟨_, rfl⟩
          have hO2i : (O : Int) - (L : Int) = (O2 : Int) := by omega
          have hO2b : (O2 : Int) ≤ 131072 := by omega
          have HO3 : Hid (O2 < L) := by have := unhide HLO; show _ < _; omega
          have HO2 := hide ((br_go a L M k i O2 r dk (by rw [← unhide HO1, if_pos hOL, hO2])).symm.trans (unhide HO))
          clear hOL hO2 HO HO1 HS ca fa ixa hz1
          go_wp2_with (first
            | (go_at_call 74; refine (unhide HNX).mono ?_; rintro e wq ⟨rfl, hwq⟩; have HSQ : Hid (Sr u wq g u.heap.size t N dk R2) := (by rw [hwq]; exact unhide HX 3); clear hwq HNX HX)
            | fail)
          have hz1 : i < dk.size := by rw [unhide HZ]; have := unhide HIE; have := unhide HE0; have := unhide HB; omega
          have hz2 : a + O2 < dk.size := by rw [unhide HZ]; have := unhide HB; have := unhide HLL; have := unhide HO3; omega
          obtain ⟨ca, fa⟩ := (unhide HSQ).so.rw'.cell i hz1
          obtain ⟨cb, fb⟩ := (unhide HSQ).so.rw'.cell (a + O2) hz2
          have ixa := unhide HI i (by rw [unhide HZ] at hz1; exact hz1)
          have ixb := unhide HI (a + O2) (by rw [unhide HZ] at hz2; exact hz2)
          rw [show ((a + O2 : Nat) : Int) = (a : Int) + (O2 : Int) by omega] at ixb
          have hwo : IntKind.i64.wrap ((a : Int) + (O2 : Int)) = (a : Int) + (O2 : Int) := by rw [IntKind.wrap_i64]; omega
          have HSW := hide ((unhide HSQ).swap i (a + O2) hz1 hz2)
          have HZ2 : Hid ((Sort.swp dk i (a + O2)).size = n) := (swp_size dk i (a + O2)).trans (unhide HZ)
          generalize dk[i]! = y1 at ca HSW
          generalize dk[a + O2]! = y2 at cb HSW
          obtain ⟨v3, hy3⟩ := cell?_setCell_some (p := ⟨g, i, none⟩) (x := .int .u64 y2.toNat) cb
          clear hz1 hz2
          go_region
          go_wp2
          go_roundw
          case rel => exact ⟨k, i + 1, Sort.xorNext r, _, by go_num, HE2, HZ2, by rw [← unhide HR3]; exact (unhide HSW).drew, HO2⟩
          case measure => have := unhide HIE; simp [intOf]; omega
        · have hOLi : ¬ (O : Int) ≥ (L : Int) := by omega
          obtain ⟨O2, hO2⟩ : ∃ O2, O2 = O := ⟨_, rfl⟩
          have HO3 : Hid (O2 < L) := by show _ < _; omega
          have HO2 := hide ((br_go a L M k i O2 r dk (by rw [← unhide HO1, if_neg hOL, hO2])).symm.trans (unhide HO))
          subst hO2
          clear hOL HO HO1 HS ca fa ixa hz1
          go_wp2_with (first
            | (go_at_call 74; refine (unhide HNX).mono ?_; rintro e wq ⟨rfl, hwq⟩; have HSQ : Hid (Sr u wq g u.heap.size t N dk R2) := (by rw [hwq]; exact unhide HX 3); clear hwq HNX HX)
            | fail)
          have hz1 : i < dk.size := by rw [unhide HZ]; have := unhide HIE; have := unhide HE0; have := unhide HB; omega
          have hz2 : a + O2 < dk.size := by rw [unhide HZ]; have := unhide HB; have := unhide HLL; have := unhide HO3; omega
          obtain ⟨ca, fa⟩ := (unhide HSQ).so.rw'.cell i hz1
          obtain ⟨cb, fb⟩ := (unhide HSQ).so.rw'.cell (a + O2) hz2
          have ixa := unhide HI i (by rw [unhide HZ] at hz1; exact hz1)
          have ixb := unhide HI (a + O2) (by rw [unhide HZ] at hz2; exact hz2)
          rw [show ((a + O2 : Nat) : Int) = (a : Int) + (O2 : Int) by omega] at ixb
          have hwo : IntKind.i64.wrap ((a : Int) + (O2 : Int)) = (a : Int) + (O2 : Int) := by rw [IntKind.wrap_i64]; omega
          have HSW := hide ((unhide HSQ).swap i (a + O2) hz1 hz2)
          have HZ2 : Hid ((Sort.swp dk i (a + O2)).size = n) := (swp_size dk i (a + O2)).trans (unhide HZ)
          generalize dk[i]! = y1 at ca HSW
          generalize dk[a + O2]! = y2 at cb HSW
          obtain ⟨v3, hy3⟩ := cell?_setCell_some (p := ⟨g, i, none⟩) (x := .int .u64 y2.toNat) cb
          clear hz1 hz2
          go_region
          go_wp2
          go_roundw
          case rel => exact ⟨k, i + 1, Sort.xorNext r, _, by go_num, HE2, HZ2, by rw [← unhide HR3]; exact (unhide HSW).drew, HO2⟩
          case measure => have := unhide HIE; simp [intOf]; omega
  · have h8i : ¬ (L : Int) ≥ 8 := by omega
    have HN := br_no d a b (by omega)
    rw [HN]
    have HS0 : Hid (So u u g t N d) := ⟨h, Alt.refl _ _⟩
    clear h hn hab hb hm hL h8 HN
    go_enter Try.func57, Try.ntmps57
    go_wp2
    go_returns
    exact ⟨rfl, unhide HS0⟩
end Go.Proofs.Ytopabadnbelegaa.K
