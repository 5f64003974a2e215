/- spliced, of cells, of keys, of kids. -/
import Derived.Test.YtppmpomfihalfaaNn
namespace Go.Proofs.Ytppmpomfihalfaa
open Go.RowKit

theorem Addr.add_zero' (x : Addr) : x.add 0 = x := by
  obtain ⟨b, o, s⟩ := x
  cases s <;> simp [Addr.add]
theorem infC : (Try.prog.info? 66).map (fun i => (i.size, i.bytes, i.zero.isSome)) = some (2, 32, true) := by kernel_rfl
theorem zeroC : ((Try.prog.info? 66).bind (·.zero)).map (·.cells) = some #[.string ⟨#[]⟩, .string ⟨#[]⟩] := by kernel_rfl
theorem undC : Try.prog.underlying 22 = some (.slice 66) := by kernel_rfl
theorem sizC : (Try.prog.info? 66).map (·.size) = some 2 := by kernel_rfl
theorem elC : Try.prog.elem 22 = 66 := by kernel_rfl
theorem mkC (n : Nat) (hn : n ≤ 1000000) (W : World) : (Instr.makeSlice 22 (.int .i64 (n : Int)) (.int .i64 (n : Int))).run Try.prog W = .ok (.slice (some ⟨W.heap.size, 0, none⟩) n n) (W.alloc (.cells (madeCells #[.string ⟨#[]⟩, .string ⟨#[]⟩] (n * 2)) 66)) := by
  have h1 := infC
  have h2 := zeroC
  cases hq : Try.prog.info? 66 with
  | none => simp [hq] at h1
  | some i =>
    simp [hq] at h1 h2
    obtain ⟨a, b, c⟩ := h1
    cases hz : i.zero with
    | none => simp [hz] at c
    | some z =>
      simp [hz] at h2
      have hr := run_make (P := Try.prog) W 22 66 i z undC hq hz .i64 .i64 n n (by omega) (Int.le_refl _) (by rw [b]; omega) (by omega)
      rw [hr, a, h2, Int.toNat_natCast]
theorem hiC (ao : Option Addr) (n c f : Nat) (hf : f ≤ c) (W : World) : (Instr.slice 22 (.slice ao n c) none (some (.int .i64 (f : Int))) none).run Try.prog W = .ok (.slice ao f c) W := by
  rw [run_slice_h W 22 _ _ _ (by rw [elC]; exact undC) .i64 f (by omega) (by omega), elC, sizeN sizC]
  simp only [Result.andThen_ok, sliced, Int.toNat_natCast, Nat.zero_mul, Nat.sub_zero]
  congr 2
  split
  · rfl
  · cases ao with
    | none => rfl
    | some x => simp [Addr.add_zero']
theorem loC (ao : Option Addr) (n c l : Nat) (hl : l ≤ n) : ∃ ao', (l < c → ao' = ao.map (·.add (l * 2))) ∧ ∀ W : World, (Instr.slice 22 (.slice ao n c) (some (.int .i64 (l : Int))) none none).run Try.prog W = .ok (.slice ao' (n - l) (c - l)) W := by
  refine ⟨if c = l then ao else ao.map (·.add (l * 2)), fun h => if_neg (by omega), fun W => ?_⟩
  rw [run_slice_l W 22 _ _ _ (by rw [elC]; exact undC) .i64 l (by omega) (by omega), elC, sizeN sizC]
  simp only [Result.andThen_ok, sliced, Int.toNat_natCast]
set_option maxRecDepth 100000 in
set_option maxHeartbeats 4000000 in
theorem nSplC (xs ys : List Value) (ao bo : Option Addr) (n c m c2 f t : Nat) (u : World) (hx : Lies u ao xs) (hxl : xs.length = n * 2) (hy : Lies u bo ys) (hyl : ys.length = m * 2) (h1 : ∀ v ∈ xs, v.oneCell' = true) (h2 : ∀ v ∈ ys, v.oneCell' = true) (hnc : n ≤ c) (hf : f ≤ t) (ht : t ≤ n) (hn : n ≤ 100000) (hm : m ≤ 100000) :
    Calls Try.prog 86 #[.slice ao n c, .int .i64 (f : Int), .int .i64 (t : Int), .slice bo m c2] u fun e u' => ∃ G, e = .returned (.slice (some ⟨G, 0, none⟩) (f + m + (n - t)) (f + m + (n - t))) ∧ u.heap.size ≤ G ∧ u'.heap[G]? = some (.cells (xs.take (f * 2) ++ (ys ++ xs.drop (t * 2))).toArray 66 (0, 0)) ∧ Below u.heap.size u u' := by
  obtain ⟨N, hN⟩ : ∃ N, N = u.heap.size := ⟨_, rfl⟩
  have HN := hide hN
  obtain ⟨r, hr⟩ : ∃ r, r = f + m + (n - t) := ⟨_, rfl⟩
  have hri : (f : Int) + (m : Int) + (n : Int) - (t : Int) = (r : Int) := by omega
  have hfi : (f : Int) ≤ 100000 := by omega
  have hmi : (m : Int) ≤ 100000 := by omega
  have hni : (n : Int) ≤ 100000 := by omega
  have hti : (t : Int) ≤ (n : Int) := by omega
  have hmk := mkC r (by omega)
  have hs1 := hiC ao n c f (by omega)
  obtain ⟨d2, hd2, hs2⟩ := loC (some ⟨N, 0, none⟩) r r f (by omega)
  obtain ⟨d3, hd3, hs3⟩ := loC (some ⟨N, 0, none⟩) r r (f + m) (by omega)
  obtain ⟨s3, hq3, hs4⟩ := loC ao n c t ht
  rw [← hr, ← hN]
  have HX := hide hx
  have HY := hide hy
  have HXL := hide hxl
  have HYL := hide hyl
  have HR := hide hr
  have H1 := hide h1
  have H2 := hide h2
  have HD2 : Hid (f < r → d2 = some ⟨N, f * 2, none⟩) := fun h => by rw [hd2 h, Option.map_some, Addr.add_mid, Nat.zero_add]
  have HD3 : Hid (f + m < r → d3 = some ⟨N, (f + m) * 2, none⟩) := fun h => by rw [hd3 h, Option.map_some, Addr.add_mid, Nat.zero_add]
  have HQ3 := hide hq3
  have hfm : (f : Int) + (m : Int) = ((f + m : Nat) : Int) := by omega
  obtain ⟨fm, hfmE⟩ : ∃ fm, fm = f + m := ⟨_, rfl⟩
  rw [← hfmE] at hs3 hfm
  have HFM := hide hfmE
  replace hri : (fm : Int) + (n : Int) - (t : Int) = (r : Int) := by omega
  have hfmw : IntKind.i64.wrap ((f : Int) + (m : Int)) = (fm : Int) := by rw [IntKind.wrap_i64]; omega
  have hfw2 : IntKind.i64.wrap (fm : Int) = (fm : Int) := by rw [IntKind.wrap_i64]; omega
  clear hx hy hxl hyl hr h1 h2 hd2 hd3 hq3 hN hfmE
  obtain ⟨X1, hX1⟩ : ∃ X1, X1 = xs.take (f * 2) := ⟨_, rfl⟩
  obtain ⟨X2, hX2⟩ : ∃ X2, X2 = xs.drop (t * 2) := ⟨_, rfl⟩
  rw [← hX1, ← hX2]
  have HX1 := hide hX1
  have HX2 := hide hX2
  obtain ⟨Zs, hZs⟩ : ∃ Zs, Zs = (madeCells #[.string ⟨#[]⟩, .string ⟨#[]⟩] (r * 2)).toList := ⟨_, rfl⟩
  have HZ : Hid (Zs.length = r * 2) := by rw [hZs, Array.length_toList, size_madeCells]; exact rfl
  rw [show madeCells #[.string ⟨#[]⟩, .string ⟨#[]⟩] (r * 2) = Zs.toArray by rw [hZs]] at hmk
  have hL1 : X1.length = f * 2 := by rw [hX1, List.length_take, unhide HXL]; omega
  have hL2 : X2.length = (n - t) * 2 := by rw [hX2, List.length_drop, unhide HXL]; omega
  have HL1 := hide hL1
  have HL2 := hide hL2
  have HO1 : Hid (∀ v ∈ X1, v.oneCell' = true) := fun v hv => unhide H1 v (by rw [hX1] at hv; exact List.mem_of_mem_take hv)
  have HO2 : Hid (∀ v ∈ X2, v.oneCell' = true) := fun v hv => unhide H1 v (by rw [hX2] at hv; exact List.mem_of_mem_drop hv)
  have HS1 : Hid (∀ W, Below N u W → 0 < X1.length → ∃ ad, ao = some ad ∧ ∀ j v, X1[j]? = some v → W.cell? (ad.add j) = some v) := fun W hb h0 => by
    obtain ⟨g, o, e, hr⟩ := ((unhide HX).below (by rw [← unhide HN]; exact hb)) (by rw [hX1, List.length_take] at h0; omega)
    refine ⟨_, e, fun j v hv => ?_⟩
    rw [Addr.add_mid]
    refine hr j v ?_
    rw [hX1, List.getElem?_take] at hv
    split at hv
    · exact hv
    · cases hv
  have HS2 : Hid (∀ W, Below N u W → 0 < ys.length → ∃ ad, bo = some ad ∧ ∀ j v, ys[j]? = some v → W.cell? (ad.add j) = some v) := fun W hb h0 => by
    obtain ⟨g, o, e, hr⟩ := ((unhide HY).below (by rw [← unhide HN]; exact hb)) h0
    exact ⟨_, e, fun j v hv => by rw [Addr.add_mid]; exact hr j v hv⟩
  have HS3 : Hid (∀ W, Below N u W → 0 < X2.length → ∃ ad, s3 = some ad ∧ ∀ j v, X2[j]? = some v → W.cell? (ad.add j) = some v) := fun W hb h0 => by
    obtain ⟨g, o, e, hr⟩ := ((unhide HX).below (by rw [← unhide HN]; exact hb)) (by rw [hX2, List.length_drop] at h0; omega)
    have htn : t < n := by
      rcases Nat.lt_or_ge t n with h | h
      · exact h
      · rw [hL2, show n - t = 0 by omega] at h0; simp at h0
    refine ⟨_, by rw [unhide HQ3 (by omega), e]; rfl, fun j v hv => ?_⟩
    show W.cell? (((⟨g, o, none⟩ : Addr).add (t * 2)).add j) = some v
    rw [Addr.add_mid, Addr.add_mid]
    rw [hX2, List.getElem?_drop] at hv
    rw [Nat.add_assoc]
    exact hr _ v hv
  clear hX1 hX2 hZs hL1 hL2 HX1 HX2 HXL HX HY HQ3
  have hmu := hmk u
  rw [← unhide HN] at hmu
  have hu0 : (u.alloc (.cells Zs.toArray 66)).heap[N]? = some (.cells Zs.toArray 66 (0, 0)) := by rw [unhide HN]; exact heap_alloc_new _ _
  have hb0 : Below N u (u.alloc (.cells Zs.toArray 66)) := (Below.refl _ _).alloc (by rw [unhide HN]; exact Nat.le_refl _) _
  have hz0 : N < (u.alloc (.cells Zs.toArray 66)).heap.size := by rw [unhide HN]; simp
  generalize u.alloc (.cells Zs.toArray 66) = W1 at hmu hu0 hb0 hz0
  have HG1 := hide hu0
  have HB1 := hide hb0
  have HZ1 := hide hz0
  have hfr : f ≤ r := by have := unhide HR; omega
  have hfmr : fm ≤ r := by have := unhide HR; have := unhide HFM; omega
  clear hmk hu0 hb0 hz0
  go_enter Try.func86, Try.ntmps86
  go_wp2_with (first
    | (with_reducible refine wpList_copyK (by rfl) (.tmp 20) (.tmp 23) 22 22 (by rfl) (some 24) (by rfl) 66 undC 2 (by decide) sizC (some ⟨N, 0, none⟩) ao r r f c (by with_unfolding_all rfl) (by with_unfolding_all rfl) N 0 Zs 66 (unhide HG1) X1 (by rw [unhide HL1]; congr 1; exact (Nat.min_eq_left hfr).symm) (fun h0 => ⟨rfl, unhide HS1 _ (unhide HB1) h0⟩) (by rw [unhide HL1, unhide HZ, Nat.zero_add]; exact Nat.mul_le_mul_right _ hfr) (unhide HO1) ?_; intro W2 n2 HG2 HU2; simp only [Act.put, List.setIfInBounds_toArray, List.set_cons_zero, List.set_cons_succ]; have HB2 := hide ((unhide HB1).trans ((unhide HU2).toBelow (Nat.le_of_lt (unhide HZ1)) (Nat.le_refl N))); have HZ2 := hide (Nat.lt_of_lt_of_le (unhide HZ1) (unhide HU2).size); clear HU2)
    | (with_reducible refine wpList_copyK (by rfl) (.tmp 27) (.tmp 28) 22 22 (by rfl) (some 29) (by rfl) 66 undC 2 (by decide) sizC d2 bo (r - f) (r - f) m c2 (by with_unfolding_all rfl) (by with_unfolding_all rfl) N (f * 2) _ 66 (unhide HG2) ys (by rw [unhide HYL]; congr 1; have := unhide HR; exact (Nat.min_eq_left (by omega)).symm) (fun h0 => ⟨unhide HD2 (by have := unhide HR; have := unhide HYL; omega), unhide HS2 _ (unhide HB2) h0⟩) (by rw [length_splice _ _ _ (by rw [unhide HL1, unhide HZ, Nat.zero_add]; exact Nat.mul_le_mul_right _ hfr), unhide HYL, unhide HZ]; have := unhide HR; have := unhide HFM; omega) (unhide H2) ?_; intro W3 n3 HG3 HU3; simp only [Act.put, List.setIfInBounds_toArray, List.set_cons_zero, List.set_cons_succ]; have HB3 := hide ((unhide HB2).trans ((unhide HU3).toBelow (Nat.le_of_lt (unhide HZ2)) (Nat.le_refl N))); have HZ3 := hide (Nat.lt_of_lt_of_le (unhide HZ2) (unhide HU3).size); clear HU3)
    | fail)
  have HLL : Hid ((splice (splice Zs 0 X1) (f * 2) ys).length = r * 2) := by
    have e1 : (splice Zs 0 X1).length = r * 2 := by rw [length_splice _ _ _ (by rw [unhide HL1, unhide HZ, Nat.zero_add]; exact Nat.mul_le_mul_right _ hfr)]; exact unhide HZ
    rw [length_splice _ _ _ (by rw [e1, unhide HYL]; have := unhide HR; omega)]
    exact e1
  have HSP : Hid (splice (splice (splice Zs 0 X1) (f * 2) ys) (fm * 2) X2 = X1 ++ (ys ++ X2)) := by
    rw [show fm * 2 = f * 2 + m * 2 by rw [unhide HFM, Nat.add_mul]]
    exact splice_splice_splice Zs X1 ys X2 _ _ (unhide HL1) (unhide HYL) (by rw [unhide HZ, unhide HL2, unhide HR, Nat.add_mul, Nat.add_mul])
  generalize splice (splice Zs 0 X1) (f * 2) ys = cur3 at *
  have HN2 : Hid (X2.length = Nat.min (n - t) (r - fm) * 2) := by rw [unhide HL2]; congr 1; have := unhide HR; have := unhide HFM; exact (Nat.min_eq_left (by omega)).symm
  have HP2 : Hid (∀ W, Below N u W → 0 < X2.length → d3 = some ⟨N, fm * 2, none⟩ ∧ ∃ ad, s3 = some ad ∧ ∀ j v, X2[j]? = some v → W.cell? (ad.add j) = some v) := fun W hb h0 => ⟨by rw [unhide HFM]; exact unhide HD3 (by have := unhide HR; have := unhide HL2; omega), unhide HS3 W hb h0⟩
  have HF2 : Hid (fm * 2 + X2.length ≤ cur3.length) := by show fm * 2 + X2.length ≤ cur3.length; rw [unhide HL2, unhide HLL]; have := unhide HR; have := unhide HFM; omega
  clear HS1 HS2 HS3 HL1 HL2 HYL HZ HD2 HD3 HG1 HG2 HB1 HB2 HZ1 HZ2 hs1 hs2 HLL
  have hmix : Try.prog.follows .mixedOrders = true := by kernel_rfl
  refine wp_region_last (fun W => W = W3.drew) 9 hmix rfl fun hS => ?_
  refine wpAnyL_take 0 30 (.slice (some ⟨N, 0, none⟩) r r) [5] rfl rfl (by kernel_rfl) (by kernel_rfl) (by kernel_rfl) (by kernel_rfl) (by kernel_rfl) (fun _ _ _ h => h) (by rfl) (fun u _ => by go_simp) hS ?_
  simp only [Act.put, List.setIfInBounds_toArray, List.set_cons_zero, List.set_cons_succ]
  refine wpAnyL_take 1 31 (.int .i64 (f : Int)) [4, 5] rfl rfl (by kernel_rfl) (by kernel_rfl) (by kernel_rfl) (by kernel_rfl) (by kernel_rfl) (fun _ _ _ h => h) (by rfl) (fun u _ => by go_simp) hS ?_
  simp only [Act.put, List.setIfInBounds_toArray, List.set_cons_zero, List.set_cons_succ]
  refine wpAnyL_take 2 32 (.slice bo m c2) [3, 4, 5] rfl rfl (by kernel_rfl) (by kernel_rfl) (by kernel_rfl) (by kernel_rfl) (by kernel_rfl) (fun _ _ _ h => h) (by rfl) (fun u _ => by go_simp) hS ?_
  simp only [Act.put, List.setIfInBounds_toArray, List.set_cons_zero, List.set_cons_succ]
  refine wpAnyL_take 3 33 (.int .i64 (m : Int)) [4, 5] rfl rfl (by kernel_rfl) (by kernel_rfl) (by kernel_rfl) (by kernel_rfl) (by kernel_rfl) (fun _ _ _ h => h) (by rfl) (fun u _ => by go_simp) hS ?_
  simp only [Act.put, List.setIfInBounds_toArray, List.set_cons_zero, List.set_cons_succ]
  refine wpAnyL_take 4 34 (.int .i64 (fm : Int)) [5] rfl rfl (by kernel_rfl) (by kernel_rfl) (by kernel_rfl) (by kernel_rfl) (by kernel_rfl) (fun _ _ _ h => h) (by rfl) (fun u _ => by go_simp) hS ?_
  simp only [Act.put, List.setIfInBounds_toArray, List.set_cons_zero, List.set_cons_succ]
  refine wpAnyL_take 5 35 (.slice d3 (r - fm) (r - fm)) [] rfl rfl (by kernel_rfl) (by kernel_rfl) (by kernel_rfl) (by kernel_rfl) (by kernel_rfl) (fun _ _ _ h => h) (by rfl) (fun u _ => by go_simp) hS ?_
  simp only [Act.put, List.setIfInBounds_toArray, List.set_cons_zero, List.set_cons_succ]
  refine wpAnyL_take 6 36 (.slice ao n c) [8] rfl rfl (by kernel_rfl) (by kernel_rfl) (by kernel_rfl) (by kernel_rfl) (by kernel_rfl) (fun _ _ _ h => h) (by rfl) (fun u _ => by go_simp) hS ?_
  simp only [Act.put, List.setIfInBounds_toArray, List.set_cons_zero, List.set_cons_succ]
  refine wpAnyL_take 7 37 (.int .i64 (t : Int)) [8] rfl rfl (by kernel_rfl) (by kernel_rfl) (by kernel_rfl) (by kernel_rfl) (by kernel_rfl) (fun _ _ _ h => h) (by rfl) (fun u _ => by go_simp) hS ?_
  simp only [Act.put, List.setIfInBounds_toArray, List.set_cons_zero, List.set_cons_succ]
  refine wpAnyL_take 8 38 (.slice s3 (n - t) (c - t)) [] rfl rfl (by kernel_rfl) (by kernel_rfl) (by kernel_rfl) (by kernel_rfl) (by kernel_rfl) (fun _ _ _ h => h) (by rfl) (fun u _ => by go_simp) hS ?_
  simp only [Act.put, List.setIfInBounds_toArray, List.set_cons_zero, List.set_cons_succ]
  refine wpAnyL_one (i := 9) (by kernel_rfl) rfl (by rfl) fun K hK => ?_
  refine wp_copyK (.tmp 35) (.tmp 38) 22 22 rfl (some 39) rfl 66 undC 2 (by decide) sizC d3 s3 (r - fm) (r - fm) (n - t) (c - t) rfl rfl N (fm * 2) cur3 66 (unhide HG3) X2 (unhide HN2) (unhide HP2 _ (belowDrewN (unhide HB3) 1)) (unhide HF2) (unhide HO2) ?_
  intro W4 n4 HG4 HU4
  refine hK _ _ (fun h => absurd rfl h) ?_
  clear hK K
  refine wpAnyL_done (by kernel_rfl) ?_ _
  simp only [Act.put, List.setIfInBounds_toArray, List.set_cons_zero, List.set_cons_succ]
  have HG5 : Hid (W4.heap[N]? = some (.cells (X1 ++ (ys ++ X2)).toArray 66 (0, 0))) := by
    have := unhide HG4
    rw [unhide HSP] at this
    exact this
  have HB4 := hide ((belowDrewN (unhide HB3) 1).trans ((unhide HU4).toBelow (Nat.le_of_lt (unhide HZ3)) (Nat.le_refl N)))
  clear HG3 HG4 HU4
  go_wp2
  go_ret
  exact ⟨N, rfl, Nat.le_refl _, unhide HG5, unhide HB4⟩
theorem infK : (Try.prog.info? 9).map (fun i => (i.size, i.bytes, i.zero.isSome)) = some (1, 16, true) := by kernel_rfl
theorem zeroK : ((Try.prog.info? 9).bind (·.zero)).map (·.cells) = some #[.string ⟨#[]⟩] := by kernel_rfl
theorem undK : Try.prog.underlying 23 = some (.slice 9) := by kernel_rfl
theorem sizK : (Try.prog.info? 9).map (·.size) = some 1 := by kernel_rfl
theorem elK : Try.prog.elem 23 = 9 := by kernel_rfl
theorem mkK (n : Nat) (hn : n ≤ 1000000) (W : World) : (Instr.makeSlice 23 (.int .i64 (n : Int)) (.int .i64 (n : Int))).run Try.prog W = .ok (.slice (some ⟨W.heap.size, 0, none⟩) n n) (W.alloc (.cells (madeCells #[.string ⟨#[]⟩] (n * 1)) 9)) := by
  have h1 := infK
  have h2 := zeroK
  cases hq : Try.prog.info? 9 with
  | none => simp [hq] at h1
  | some i =>
    simp [hq] at h1 h2
    obtain ⟨a, b, c⟩ := h1
    cases hz : i.zero with
    | none => simp [hz] at c
    | some z =>
      simp [hz] at h2
      have hr := run_make (P := Try.prog) W 23 9 i z undK hq hz .i64 .i64 n n (by omega) (Int.le_refl _) (by rw [b]; omega) (by omega)
      rw [hr, a, h2, Int.toNat_natCast]
theorem hiK (ao : Option Addr) (n c f : Nat) (hf : f ≤ c) (W : World) : (Instr.slice 23 (.slice ao n c) none (some (.int .i64 (f : Int))) none).run Try.prog W = .ok (.slice ao f c) W := by
  rw [run_slice_h W 23 _ _ _ (by rw [elK]; exact undK) .i64 f (by omega) (by omega), elK, sizeN sizK]
  simp only [Result.andThen_ok, sliced, Int.toNat_natCast, Nat.zero_mul, Nat.sub_zero]
  congr 2
  split
  · rfl
  · cases ao with
    | none => rfl
    | some x => simp [Addr.add_zero']
theorem loK (ao : Option Addr) (n c l : Nat) (hl : l ≤ n) : ∃ ao', (l < c → ao' = ao.map (·.add (l * 1))) ∧ ∀ W : World, (Instr.slice 23 (.slice ao n c) (some (.int .i64 (l : Int))) none none).run Try.prog W = .ok (.slice ao' (n - l) (c - l)) W := by
  refine ⟨if c = l then ao else ao.map (·.add (l * 1)), fun h => if_neg (by omega), fun W => ?_⟩
  rw [run_slice_l W 23 _ _ _ (by rw [elK]; exact undK) .i64 l (by omega) (by omega), elK, sizeN sizK]
  simp only [Result.andThen_ok, sliced, Int.toNat_natCast]
set_option maxRecDepth 100000 in
set_option maxHeartbeats 4000000 in
theorem nSplK (xs ys : List Value) (ao bo : Option Addr) (n c m c2 f t : Nat) (u : World) (hx : Lies u ao xs) (hxl : xs.length = n * 1) (hy : Lies u bo ys) (hyl : ys.length = m * 1) (h1 : ∀ v ∈ xs, v.oneCell' = true) (h2 : ∀ v ∈ ys, v.oneCell' = true) (hnc : n ≤ c) (hf : f ≤ t) (ht : t ≤ n) (hn : n ≤ 100000) (hm : m ≤ 100000) :
    Calls Try.prog 91 #[.slice ao n c, .int .i64 (f : Int), .int .i64 (t : Int), .slice bo m c2] u fun e u' => ∃ G, e = .returned (.slice (some ⟨G, 0, none⟩) (f + m + (n - t)) (f + m + (n - t))) ∧ u.heap.size ≤ G ∧ u'.heap[G]? = some (.cells (xs.take (f * 1) ++ (ys ++ xs.drop (t * 1))).toArray 9 (0, 0)) ∧ Below u.heap.size u u' := by
  obtain ⟨N, hN⟩ : ∃ N, N = u.heap.size := ⟨_, rfl⟩
  have HN := hide hN
  obtain ⟨r, hr⟩ : ∃ r, r = f + m + (n - t) := ⟨_, rfl⟩
  have hri : (f : Int) + (m : Int) + (n : Int) - (t : Int) = (r : Int) := by omega
  have hfi : (f : Int) ≤ 100000 := by omega
  have hmi : (m : Int) ≤ 100000 := by omega
  have hni : (n : Int) ≤ 100000 := by omega
  have hti : (t : Int) ≤ (n : Int) := by omega
  have hmk := mkK r (by omega)
  have hs1 := hiK ao n c f (by omega)
  obtain ⟨d2, hd2, hs2⟩ := loK (some ⟨N, 0, none⟩) r r f (by omega)
  obtain ⟨d3, hd3, hs3⟩ := loK (some ⟨N, 0, none⟩) r r (f + m) (by omega)
  obtain ⟨s3, hq3, hs4⟩ := loK ao n c t ht
  rw [← hr, ← hN]
  have HX := hide hx
  have HY := hide hy
  have HXL := hide hxl
  have HYL := hide hyl
  have HR := hide hr
  have H1 := hide h1
  have H2 := hide h2
  have HD2 : Hid (f < r → d2 = some ⟨N, f * 1, none⟩) := fun h => by rw [hd2 h, Option.map_some, Addr.add_mid, Nat.zero_add]
  have HD3 : Hid (f + m < r → d3 = some ⟨N, (f + m) * 1, none⟩) := fun h => by rw [hd3 h, Option.map_some, Addr.add_mid, Nat.zero_add]
  have HQ3 := hide hq3
  have hfm : (f : Int) + (m : Int) = ((f + m : Nat) : Int) := by omega
  obtain ⟨fm, hfmE⟩ : ∃ fm, fm = f + m := ⟨_, rfl⟩
  rw [← hfmE] at hs3 hfm
  have HFM := hide hfmE
  replace hri : (fm : Int) + (n : Int) - (t : Int) = (r : Int) := by omega
  have hfmw : IntKind.i64.wrap ((f : Int) + (m : Int)) = (fm : Int) := by rw [IntKind.wrap_i64]; omega
  have hfw2 : IntKind.i64.wrap (fm : Int) = (fm : Int) := by rw [IntKind.wrap_i64]; omega
  clear hx hy hxl hyl hr h1 h2 hd2 hd3 hq3 hN hfmE
  obtain ⟨X1, hX1⟩ : ∃ X1, X1 = xs.take (f * 1) := ⟨_, rfl⟩
  obtain ⟨X2, hX2⟩ : ∃ X2, X2 = xs.drop (t * 1) := ⟨_, rfl⟩
  rw [← hX1, ← hX2]
  have HX1 := hide hX1
  have HX2 := hide hX2
  obtain ⟨Zs, hZs⟩ : ∃ Zs, Zs = (madeCells #[.string ⟨#[]⟩] (r * 1)).toList := ⟨_, rfl⟩
  have HZ : Hid (Zs.length = r * 1) := by rw [hZs, Array.length_toList, size_madeCells]; exact rfl
  rw [show madeCells #[.string ⟨#[]⟩] (r * 1) = Zs.toArray by rw [hZs]] at hmk
  have hL1 : X1.length = f * 1 := by rw [hX1, List.length_take, unhide HXL]; omega
  have hL2 : X2.length = (n - t) * 1 := by rw [hX2, List.length_drop, unhide HXL]; omega
  have HL1 := hide hL1
  have HL2 := hide hL2
  have HO1 : Hid (∀ v ∈ X1, v.oneCell' = true) := fun v hv => unhide H1 v (by rw [hX1] at hv; exact List.mem_of_mem_take hv)
  have HO2 : Hid (∀ v ∈ X2, v.oneCell' = true) := fun v hv => unhide H1 v (by rw [hX2] at hv; exact List.mem_of_mem_drop hv)
  have HS1 : Hid (∀ W, Below N u W → 0 < X1.length → ∃ ad, ao = some ad ∧ ∀ j v, X1[j]? = some v → W.cell? (ad.add j) = some v) := fun W hb h0 => by
    obtain ⟨g, o, e, hr⟩ := ((unhide HX).below (by rw [← unhide HN]; exact hb)) (by rw [hX1, List.length_take] at h0; omega)
    refine ⟨_, e, fun j v hv => ?_⟩
    rw [Addr.add_mid]
    refine hr j v ?_
    rw [hX1, List.getElem?_take] at hv
    split at hv
    · exact hv
    · cases hv
  have HS2 : Hid (∀ W, Below N u W → 0 < ys.length → ∃ ad, bo = some ad ∧ ∀ j v, ys[j]? = some v → W.cell? (ad.add j) = some v) := fun W hb h0 => by
    obtain ⟨g, o, e, hr⟩ := ((unhide HY).below (by rw [← unhide HN]; exact hb)) h0
    exact ⟨_, e, fun j v hv => by rw [Addr.add_mid]; exact hr j v hv⟩
  have HS3 : Hid (∀ W, Below N u W → 0 < X2.length → ∃ ad, s3 = some ad ∧ ∀ j v, X2[j]? = some v → W.cell? (ad.add j) = some v) := fun W hb h0 => by
    obtain ⟨g, o, e, hr⟩ := ((unhide HX).below (by rw [← unhide HN]; exact hb)) (by rw [hX2, List.length_drop] at h0; omega)
    have htn : t < n := by
      rcases Nat.lt_or_ge t n with h | h
      · exact h
      · rw [hL2, show n - t = 0 by omega] at h0; simp at h0
    refine ⟨_, by rw [unhide HQ3 (by omega), e]; rfl, fun j v hv => ?_⟩
    show W.cell? (((⟨g, o, none⟩ : Addr).add (t * 1)).add j) = some v
    rw [Addr.add_mid, Addr.add_mid]
    rw [hX2, List.getElem?_drop] at hv
    rw [Nat.add_assoc]
    exact hr _ v hv
  clear hX1 hX2 hZs hL1 hL2 HX1 HX2 HXL HX HY HQ3
  have hmu := hmk u
  rw [← unhide HN] at hmu
  have hu0 : (u.alloc (.cells Zs.toArray 9)).heap[N]? = some (.cells Zs.toArray 9 (0, 0)) := by rw [unhide HN]; exact heap_alloc_new _ _
  have hb0 : Below N u (u.alloc (.cells Zs.toArray 9)) := (Below.refl _ _).alloc (by rw [unhide HN]; exact Nat.le_refl _) _
  have hz0 : N < (u.alloc (.cells Zs.toArray 9)).heap.size := by rw [unhide HN]; simp
  generalize u.alloc (.cells Zs.toArray 9) = W1 at hmu hu0 hb0 hz0
  have HG1 := hide hu0
  have HB1 := hide hb0
  have HZ1 := hide hz0
  have hfr : f ≤ r := by have := unhide HR; omega
  have hfmr : fm ≤ r := by have := unhide HR; have := unhide HFM; omega
  clear hmk hu0 hb0 hz0
  go_enter Try.func91, Try.ntmps91
  go_wp2_with (first
    | (with_reducible refine wpList_copyK (by rfl) (.tmp 20) (.tmp 23) 23 23 (by rfl) (some 24) (by rfl) 9 undK 1 (by decide) sizK (some ⟨N, 0, none⟩) ao r r f c (by with_unfolding_all rfl) (by with_unfolding_all rfl) N 0 Zs 9 (unhide HG1) X1 (by rw [unhide HL1]; congr 1; exact (Nat.min_eq_left hfr).symm) (fun h0 => ⟨rfl, unhide HS1 _ (unhide HB1) h0⟩) (by rw [unhide HL1, unhide HZ, Nat.zero_add]; exact Nat.mul_le_mul_right _ hfr) (unhide HO1) ?_; intro W2 n2 HG2 HU2; simp only [Act.put, List.setIfInBounds_toArray, List.set_cons_zero, List.set_cons_succ]; have HB2 := hide ((unhide HB1).trans ((unhide HU2).toBelow (Nat.le_of_lt (unhide HZ1)) (Nat.le_refl N))); have HZ2 := hide (Nat.lt_of_lt_of_le (unhide HZ1) (unhide HU2).size); clear HU2)
    | (with_reducible refine wpList_copyK (by rfl) (.tmp 27) (.tmp 28) 23 23 (by rfl) (some 29) (by rfl) 9 undK 1 (by decide) sizK d2 bo (r - f) (r - f) m c2 (by with_unfolding_all rfl) (by with_unfolding_all rfl) N (f * 1) _ 9 (unhide HG2) ys (by rw [unhide HYL]; congr 1; have := unhide HR; exact (Nat.min_eq_left (by omega)).symm) (fun h0 => ⟨unhide HD2 (by have := unhide HR; have := unhide HYL; omega), unhide HS2 _ (unhide HB2) h0⟩) (by rw [length_splice _ _ _ (by rw [unhide HL1, unhide HZ, Nat.zero_add]; exact Nat.mul_le_mul_right _ hfr), unhide HYL, unhide HZ]; have := unhide HR; have := unhide HFM; omega) (unhide H2) ?_; intro W3 n3 HG3 HU3; simp only [Act.put, List.setIfInBounds_toArray, List.set_cons_zero, List.set_cons_succ]; have HB3 := hide ((unhide HB2).trans ((unhide HU3).toBelow (Nat.le_of_lt (unhide HZ2)) (Nat.le_refl N))); have HZ3 := hide (Nat.lt_of_lt_of_le (unhide HZ2) (unhide HU3).size); clear HU3)
    | fail)
  have HLL : Hid ((splice (splice Zs 0 X1) (f * 1) ys).length = r * 1) := by
    have e1 : (splice Zs 0 X1).length = r * 1 := by rw [length_splice _ _ _ (by rw [unhide HL1, unhide HZ, Nat.zero_add]; exact Nat.mul_le_mul_right _ hfr)]; exact unhide HZ
    rw [length_splice _ _ _ (by rw [e1, unhide HYL]; have := unhide HR; omega)]
    exact e1
  have HSP : Hid (splice (splice (splice Zs 0 X1) (f * 1) ys) (fm * 1) X2 = X1 ++ (ys ++ X2)) := by
    rw [show fm * 1 = f * 1 + m * 1 by rw [unhide HFM, Nat.add_mul]]
    exact splice_splice_splice Zs X1 ys X2 _ _ (unhide HL1) (unhide HYL) (by rw [unhide HZ, unhide HL2, unhide HR, Nat.add_mul, Nat.add_mul])
  generalize splice (splice Zs 0 X1) (f * 1) ys = cur3 at *
  have HN2 : Hid (X2.length = Nat.min (n - t) (r - fm) * 1) := by rw [unhide HL2]; congr 1; have := unhide HR; have := unhide HFM; exact (Nat.min_eq_left (by omega)).symm
  have HP2 : Hid (∀ W, Below N u W → 0 < X2.length → d3 = some ⟨N, fm * 1, none⟩ ∧ ∃ ad, s3 = some ad ∧ ∀ j v, X2[j]? = some v → W.cell? (ad.add j) = some v) := fun W hb h0 => ⟨by rw [unhide HFM]; exact unhide HD3 (by have := unhide HR; have := unhide HL2; omega), unhide HS3 W hb h0⟩
  have HF2 : Hid (fm * 1 + X2.length ≤ cur3.length) := by show fm * 1 + X2.length ≤ cur3.length; rw [unhide HL2, unhide HLL]; have := unhide HR; have := unhide HFM; omega
  clear HS1 HS2 HS3 HL1 HL2 HYL HZ HD2 HD3 HG1 HG2 HB1 HB2 HZ1 HZ2 hs1 hs2 HLL
  have hmix : Try.prog.follows .mixedOrders = true := by kernel_rfl
  refine wp_region_last (fun W => W = W3.drew) 9 hmix rfl fun hS => ?_
  refine wpAnyL_take 0 30 (.slice (some ⟨N, 0, none⟩) r r) [5] rfl rfl (by kernel_rfl) (by kernel_rfl) (by kernel_rfl) (by kernel_rfl) (by kernel_rfl) (fun _ _ _ h => h) (by rfl) (fun u _ => by go_simp) hS ?_
  simp only [Act.put, List.setIfInBounds_toArray, List.set_cons_zero, List.set_cons_succ]
  refine wpAnyL_take 1 31 (.int .i64 (f : Int)) [4, 5] rfl rfl (by kernel_rfl) (by kernel_rfl) (by kernel_rfl) (by kernel_rfl) (by kernel_rfl) (fun _ _ _ h => h) (by rfl) (fun u _ => by go_simp) hS ?_
  simp only [Act.put, List.setIfInBounds_toArray, List.set_cons_zero, List.set_cons_succ]
  refine wpAnyL_take 2 32 (.slice bo m c2) [3, 4, 5] rfl rfl (by kernel_rfl) (by kernel_rfl) (by kernel_rfl) (by kernel_rfl) (by kernel_rfl) (fun _ _ _ h => h) (by rfl) (fun u _ => by go_simp) hS ?_
  simp only [Act.put, List.setIfInBounds_toArray, List.set_cons_zero, List.set_cons_succ]
  refine wpAnyL_take 3 33 (.int .i64 (m : Int)) [4, 5] rfl rfl (by kernel_rfl) (by kernel_rfl) (by kernel_rfl) (by kernel_rfl) (by kernel_rfl) (fun _ _ _ h => h) (by rfl) (fun u _ => by go_simp) hS ?_
  simp only [Act.put, List.setIfInBounds_toArray, List.set_cons_zero, List.set_cons_succ]
  refine wpAnyL_take 4 34 (.int .i64 (fm : Int)) [5] rfl rfl (by kernel_rfl) (by kernel_rfl) (by kernel_rfl) (by kernel_rfl) (by kernel_rfl) (fun _ _ _ h => h) (by rfl) (fun u _ => by go_simp) hS ?_
  simp only [Act.put, List.setIfInBounds_toArray, List.set_cons_zero, List.set_cons_succ]
  refine wpAnyL_take 5 35 (.slice d3 (r - fm) (r - fm)) [] rfl rfl (by kernel_rfl) (by kernel_rfl) (by kernel_rfl) (by kernel_rfl) (by kernel_rfl) (fun _ _ _ h => h) (by rfl) (fun u _ => by go_simp) hS ?_
  simp only [Act.put, List.setIfInBounds_toArray, List.set_cons_zero, List.set_cons_succ]
  refine wpAnyL_take 6 36 (.slice ao n c) [8] rfl rfl (by kernel_rfl) (by kernel_rfl) (by kernel_rfl) (by kernel_rfl) (by kernel_rfl) (fun _ _ _ h => h) (by rfl) (fun u _ => by go_simp) hS ?_
  simp only [Act.put, List.setIfInBounds_toArray, List.set_cons_zero, List.set_cons_succ]
  refine wpAnyL_take 7 37 (.int .i64 (t : Int)) [8] rfl rfl (by kernel_rfl) (by kernel_rfl) (by kernel_rfl) (by kernel_rfl) (by kernel_rfl) (fun _ _ _ h => h) (by rfl) (fun u _ => by go_simp) hS ?_
  simp only [Act.put, List.setIfInBounds_toArray, List.set_cons_zero, List.set_cons_succ]
  refine wpAnyL_take 8 38 (.slice s3 (n - t) (c - t)) [] rfl rfl (by kernel_rfl) (by kernel_rfl) (by kernel_rfl) (by kernel_rfl) (by kernel_rfl) (fun _ _ _ h => h) (by rfl) (fun u _ => by go_simp) hS ?_
  simp only [Act.put, List.setIfInBounds_toArray, List.set_cons_zero, List.set_cons_succ]
  refine wpAnyL_one (i := 9) (by kernel_rfl) rfl (by rfl) fun K hK => ?_
  refine wp_copyK (.tmp 35) (.tmp 38) 23 23 rfl (some 39) rfl 9 undK 1 (by decide) sizK d3 s3 (r - fm) (r - fm) (n - t) (c - t) rfl rfl N (fm * 1) cur3 9 (unhide HG3) X2 (unhide HN2) (unhide HP2 _ (belowDrewN (unhide HB3) 1)) (unhide HF2) (unhide HO2) ?_
  intro W4 n4 HG4 HU4
  refine hK _ _ (fun h => absurd rfl h) ?_
  clear hK K
  refine wpAnyL_done (by kernel_rfl) ?_ _
  simp only [Act.put, List.setIfInBounds_toArray, List.set_cons_zero, List.set_cons_succ]
  have HG5 : Hid (W4.heap[N]? = some (.cells (X1 ++ (ys ++ X2)).toArray 9 (0, 0))) := by
    have := unhide HG4
    rw [unhide HSP] at this
    exact this
  have HB4 := hide ((belowDrewN (unhide HB3) 1).trans ((unhide HU4).toBelow (Nat.le_of_lt (unhide HZ3)) (Nat.le_refl N)))
  clear HG3 HG4 HU4
  go_wp2
  go_ret
  exact ⟨N, rfl, Nat.le_refl _, unhide HG5, unhide HB4⟩
theorem infG : (Try.prog.info? 50).map (fun i => (i.size, i.bytes, i.zero.isSome)) = some (1, 4, true) := by kernel_rfl
theorem zeroG : ((Try.prog.info? 50).bind (·.zero)).map (·.cells) = some #[.int .u32 0] := by kernel_rfl
theorem undG : Try.prog.underlying 24 = some (.slice 50) := by kernel_rfl
theorem sizG : (Try.prog.info? 50).map (·.size) = some 1 := by kernel_rfl
theorem elG : Try.prog.elem 24 = 50 := by kernel_rfl
theorem mkG (n : Nat) (hn : n ≤ 1000000) (W : World) : (Instr.makeSlice 24 (.int .i64 (n : Int)) (.int .i64 (n : Int))).run Try.prog W = .ok (.slice (some ⟨W.heap.size, 0, none⟩) n n) (W.alloc (.cells (madeCells #[.int .u32 0] (n * 1)) 50)) := by
  have h1 := infG
  have h2 := zeroG
  cases hq : Try.prog.info? 50 with
  | none => simp [hq] at h1
  | some i =>
    simp [hq] at h1 h2
    obtain ⟨a, b, c⟩ := h1
    cases hz : i.zero with
    | none => simp [hz] at c
    | some z =>
      simp [hz] at h2
      have hr := run_make (P := Try.prog) W 24 50 i z undG hq hz .i64 .i64 n n (by omega) (Int.le_refl _) (by rw [b]; omega) (by omega)
      rw [hr, a, h2, Int.toNat_natCast]
theorem hiG (ao : Option Addr) (n c f : Nat) (hf : f ≤ c) (W : World) : (Instr.slice 24 (.slice ao n c) none (some (.int .i64 (f : Int))) none).run Try.prog W = .ok (.slice ao f c) W := by
  rw [run_slice_h W 24 _ _ _ (by rw [elG]; exact undG) .i64 f (by omega) (by omega), elG, sizeN sizG]
  simp only [Result.andThen_ok, sliced, Int.toNat_natCast, Nat.zero_mul, Nat.sub_zero]
  congr 2
  split
  · rfl
  · cases ao with
    | none => rfl
    | some x => simp [Addr.add_zero']
theorem loG (ao : Option Addr) (n c l : Nat) (hl : l ≤ n) : ∃ ao', (l < c → ao' = ao.map (·.add (l * 1))) ∧ ∀ W : World, (Instr.slice 24 (.slice ao n c) (some (.int .i64 (l : Int))) none none).run Try.prog W = .ok (.slice ao' (n - l) (c - l)) W := by
  refine ⟨if c = l then ao else ao.map (·.add (l * 1)), fun h => if_neg (by omega), fun W => ?_⟩
  rw [run_slice_l W 24 _ _ _ (by rw [elG]; exact undG) .i64 l (by omega) (by omega), elG, sizeN sizG]
  simp only [Result.andThen_ok, sliced, Int.toNat_natCast]
set_option maxRecDepth 100000 in
set_option maxHeartbeats 4000000 in
theorem nSplG (xs ys : List Value) (ao bo : Option Addr) (n c m c2 f t : Nat) (u : World) (hx : Lies u ao xs) (hxl : xs.length = n * 1) (hy : Lies u bo ys) (hyl : ys.length = m * 1) (h1 : ∀ v ∈ xs, v.oneCell' = true) (h2 : ∀ v ∈ ys, v.oneCell' = true) (hnc : n ≤ c) (hf : f ≤ t) (ht : t ≤ n) (hn : n ≤ 100000) (hm : m ≤ 100000) :
    Calls Try.prog 92 #[.slice ao n c, .int .i64 (f : Int), .int .i64 (t : Int), .slice bo m c2] u fun e u' => ∃ G, e = .returned (.slice (some ⟨G, 0, none⟩) (f + m + (n - t)) (f + m + (n - t))) ∧ u.heap.size ≤ G ∧ u'.heap[G]? = some (.cells (xs.take (f * 1) ++ (ys ++ xs.drop (t * 1))).toArray 50 (0, 0)) ∧ Below u.heap.size u u' := by
  obtain ⟨N, hN⟩ : ∃ N, N = u.heap.size := ⟨_, rfl⟩
  have HN := hide hN
  obtain ⟨r, hr⟩ : ∃ r, r = f + m + (n - t) := ⟨_, rfl⟩
  have hri : (f : Int) + (m : Int) + (n : Int) - (t : Int) = (r : Int) := by omega
  have hfi : (f : Int) ≤ 100000 := by omega
  have hmi : (m : Int) ≤ 100000 := by omega
  have hni : (n : Int) ≤ 100000 := by omega
  have hti : (t : Int) ≤ (n : Int) := by omega
  have hmk := mkG r (by omega)
  have hs1 := hiG ao n c f (by omega)
  obtain ⟨d2, hd2, hs2⟩ := loG (some ⟨N, 0, none⟩) r r f (by omega)
  obtain ⟨d3, hd3, hs3⟩ := loG (some ⟨N, 0, none⟩) r r (f + m) (by omega)
  obtain ⟨s3, hq3, hs4⟩ := loG ao n c t ht
  rw [← hr, ← hN]
  have HX := hide hx
  have HY := hide hy
  have HXL := hide hxl
  have HYL := hide hyl
  have HR := hide hr
  have H1 := hide h1
  have H2 := hide h2
  have HD2 : Hid (f < r → d2 = some ⟨N, f * 1, none⟩) := fun h => by rw [hd2 h, Option.map_some, Addr.add_mid, Nat.zero_add]
  have HD3 : Hid (f + m < r → d3 = some ⟨N, (f + m) * 1, none⟩) := fun h => by rw [hd3 h, Option.map_some, Addr.add_mid, Nat.zero_add]
  have HQ3 := hide hq3
  have hfm : (f : Int) + (m : Int) = ((f + m : Nat) : Int) := by omega
  obtain ⟨fm, hfmE⟩ : ∃ fm, fm = f + m := ⟨_, rfl⟩
  rw [← hfmE] at hs3 hfm
  have HFM := hide hfmE
  replace hri : (fm : Int) + (n : Int) - (t : Int) = (r : Int) := by omega
  have hfmw : IntKind.i64.wrap ((f : Int) + (m : Int)) = (fm : Int) := by rw [IntKind.wrap_i64]; omega
  have hfw2 : IntKind.i64.wrap (fm : Int) = (fm : Int) := by rw [IntKind.wrap_i64]; omega
  clear hx hy hxl hyl hr h1 h2 hd2 hd3 hq3 hN hfmE
  obtain ⟨X1, hX1⟩ : ∃ X1, X1 = xs.take (f * 1) := ⟨_, rfl⟩
  obtain ⟨X2, hX2⟩ : ∃ X2, X2 = xs.drop (t * 1) := ⟨_, rfl⟩
  rw [← hX1, ← hX2]
  have HX1 := hide hX1
  have HX2 := hide hX2
  obtain ⟨Zs, hZs⟩ : ∃ Zs, Zs = (madeCells #[.int .u32 0] (r * 1)).toList := ⟨_, rfl⟩
  have HZ : Hid (Zs.length = r * 1) := by rw [hZs, Array.length_toList, size_madeCells]; exact rfl
  rw [show madeCells #[.int .u32 0] (r * 1) = Zs.toArray by rw [hZs]] at hmk
  have hL1 : X1.length = f * 1 := by rw [hX1, List.length_take, unhide HXL]; omega
  have hL2 : X2.length = (n - t) * 1 := by rw [hX2, List.length_drop, unhide HXL]; omega
  have HL1 := hide hL1
  have HL2 := hide hL2
  have HO1 : Hid (∀ v ∈ X1, v.oneCell' = true) := fun v hv => unhide H1 v (by rw [hX1] at hv; exact List.mem_of_mem_take hv)
  have HO2 : Hid (∀ v ∈ X2, v.oneCell' = true) := fun v hv => unhide H1 v (by rw [hX2] at hv; exact List.mem_of_mem_drop hv)
  have HS1 : Hid (∀ W, Below N u W → 0 < X1.length → ∃ ad, ao = some ad ∧ ∀ j v, X1[j]? = some v → W.cell? (ad.add j) = some v) := fun W hb h0 => by
    obtain ⟨g, o, e, hr⟩ := ((unhide HX).below (by rw [← unhide HN]; exact hb)) (by rw [hX1, List.length_take] at h0; omega)
    refine ⟨_, e, fun j v hv => ?_⟩
    rw [Addr.add_mid]
    refine hr j v ?_
    rw [hX1, List.getElem?_take] at hv
    split at hv
    · exact hv
    · cases hv
  have HS2 : Hid (∀ W, Below N u W → 0 < ys.length → ∃ ad, bo = some ad ∧ ∀ j v, ys[j]? = some v → W.cell? (ad.add j) = some v) := fun W hb h0 => by
    obtain ⟨g, o, e, hr⟩ := ((unhide HY).below (by rw [← unhide HN]; exact hb)) h0
    exact ⟨_, e, fun j v hv => by rw [Addr.add_mid]; exact hr j v hv⟩
  have HS3 : Hid (∀ W, Below N u W → 0 < X2.length → ∃ ad, s3 = some ad ∧ ∀ j v, X2[j]? = some v → W.cell? (ad.add j) = some v) := fun W hb h0 => by
    obtain ⟨g, o, e, hr⟩ := ((unhide HX).below (by rw [← unhide HN]; exact hb)) (by rw [hX2, List.length_drop] at h0; omega)
    have htn : t < n := by
      rcases Nat.lt_or_ge t n with h | h
      · exact h
      · rw [hL2, show n - t = 0 by omega] at h0; simp at h0
    refine ⟨_, by rw [unhide HQ3 (by omega), e]; rfl, fun j v hv => ?_⟩
    show W.cell? (((⟨g, o, none⟩ : Addr).add (t * 1)).add j) = some v
    rw [Addr.add_mid, Addr.add_mid]
    rw [hX2, List.getElem?_drop] at hv
    rw [Nat.add_assoc]
    exact hr _ v hv
  clear hX1 hX2 hZs hL1 hL2 HX1 HX2 HXL HX HY HQ3
  have hmu := hmk u
  rw [← unhide HN] at hmu
  have hu0 : (u.alloc (.cells Zs.toArray 50)).heap[N]? = some (.cells Zs.toArray 50 (0, 0)) := by rw [unhide HN]; exact heap_alloc_new _ _
  have hb0 : Below N u (u.alloc (.cells Zs.toArray 50)) := (Below.refl _ _).alloc (by rw [unhide HN]; exact Nat.le_refl _) _
  have hz0 : N < (u.alloc (.cells Zs.toArray 50)).heap.size := by rw [unhide HN]; simp
  generalize u.alloc (.cells Zs.toArray 50) = W1 at hmu hu0 hb0 hz0
  have HG1 := hide hu0
  have HB1 := hide hb0
  have HZ1 := hide hz0
  have hfr : f ≤ r := by have := unhide HR; omega
  have hfmr : fm ≤ r := by have := unhide HR; have := unhide HFM; omega
  clear hmk hu0 hb0 hz0
  go_enter Try.func92, Try.ntmps92
  go_wp2_with (first
    | (with_reducible refine wpList_copyK (by rfl) (.tmp 20) (.tmp 23) 24 24 (by rfl) (some 24) (by rfl) 50 undG 1 (by decide) sizG (some ⟨N, 0, none⟩) ao r r f c (by with_unfolding_all rfl) (by with_unfolding_all rfl) N 0 Zs 50 (unhide HG1) X1 (by rw [unhide HL1]; congr 1; exact (Nat.min_eq_left hfr).symm) (fun h0 => ⟨rfl, unhide HS1 _ (unhide HB1) h0⟩) (by rw [unhide HL1, unhide HZ, Nat.zero_add]; exact Nat.mul_le_mul_right _ hfr) (unhide HO1) ?_; intro W2 n2 HG2 HU2; simp only [Act.put, List.setIfInBounds_toArray, List.set_cons_zero, List.set_cons_succ]; have HB2 := hide ((unhide HB1).trans ((unhide HU2).toBelow (Nat.le_of_lt (unhide HZ1)) (Nat.le_refl N))); have HZ2 := hide (Nat.lt_of_lt_of_le (unhide HZ1) (unhide HU2).size); clear HU2)
    | (with_reducible refine wpList_copyK (by rfl) (.tmp 27) (.tmp 28) 24 24 (by rfl) (some 29) (by rfl) 50 undG 1 (by decide) sizG d2 bo (r - f) (r - f) m c2 (by with_unfolding_all rfl) (by with_unfolding_all rfl) N (f * 1) _ 50 (unhide HG2) ys (by rw [unhide HYL]; congr 1; have := unhide HR; exact (Nat.min_eq_left (by omega)).symm) (fun h0 => ⟨unhide HD2 (by have := unhide HR; have := unhide HYL; omega), unhide HS2 _ (unhide HB2) h0⟩) (by rw [length_splice _ _ _ (by rw [unhide HL1, unhide HZ, Nat.zero_add]; exact Nat.mul_le_mul_right _ hfr), unhide HYL, unhide HZ]; have := unhide HR; have := unhide HFM; omega) (unhide H2) ?_; intro W3 n3 HG3 HU3; simp only [Act.put, List.setIfInBounds_toArray, List.set_cons_zero, List.set_cons_succ]; have HB3 := hide ((unhide HB2).trans ((unhide HU3).toBelow (Nat.le_of_lt (unhide HZ2)) (Nat.le_refl N))); have HZ3 := hide (Nat.lt_of_lt_of_le (unhide HZ2) (unhide HU3).size); clear HU3)
    | fail)
  have HLL : Hid ((splice (splice Zs 0 X1) (f * 1) ys).length = r * 1) := by
    have e1 : (splice Zs 0 X1).length = r * 1 := by rw [length_splice _ _ _ (by rw [unhide HL1, unhide HZ, Nat.zero_add]; exact Nat.mul_le_mul_right _ hfr)]; exact unhide HZ
    rw [length_splice _ _ _ (by rw [e1, unhide HYL]; have := unhide HR; omega)]
    exact e1
  have HSP : Hid (splice (splice (splice Zs 0 X1) (f * 1) ys) (fm * 1) X2 = X1 ++ (ys ++ X2)) := by
    rw [show fm * 1 = f * 1 + m * 1 by rw [unhide HFM, Nat.add_mul]]
    exact splice_splice_splice Zs X1 ys X2 _ _ (unhide HL1) (unhide HYL) (by rw [unhide HZ, unhide HL2, unhide HR, Nat.add_mul, Nat.add_mul])
  generalize splice (splice Zs 0 X1) (f * 1) ys = cur3 at *
  have HN2 : Hid (X2.length = Nat.min (n - t) (r - fm) * 1) := by rw [unhide HL2]; congr 1; have := unhide HR; have := unhide HFM; exact (Nat.min_eq_left (by omega)).symm
  have HP2 : Hid (∀ W, Below N u W → 0 < X2.length → d3 = some ⟨N, fm * 1, none⟩ ∧ ∃ ad, s3 = some ad ∧ ∀ j v, X2[j]? = some v → W.cell? (ad.add j) = some v) := fun W hb h0 => ⟨by rw [unhide HFM]; exact unhide HD3 (by have := unhide HR; have := unhide HL2; omega), unhide HS3 W hb h0⟩
  have HF2 : Hid (fm * 1 + X2.length ≤ cur3.length) := by show fm * 1 + X2.length ≤ cur3.length; rw [unhide HL2, unhide HLL]; have := unhide HR; have := unhide HFM; omega
  clear HS1 HS2 HS3 HL1 HL2 HYL HZ HD2 HD3 HG1 HG2 HB1 HB2 HZ1 HZ2 hs1 hs2 HLL
  have hmix : Try.prog.follows .mixedOrders = true := by kernel_rfl
  refine wp_region_last (fun W => W = W3.drew) 9 hmix rfl fun hS => ?_
  refine wpAnyL_take 0 30 (.slice (some ⟨N, 0, none⟩) r r) [5] rfl rfl (by kernel_rfl) (by kernel_rfl) (by kernel_rfl) (by kernel_rfl) (by kernel_rfl) (fun _ _ _ h => h) (by rfl) (fun u _ => by go_simp) hS ?_
  simp only [Act.put, List.setIfInBounds_toArray, List.set_cons_zero, List.set_cons_succ]
  refine wpAnyL_take 1 31 (.int .i64 (f : Int)) [4, 5] rfl rfl (by kernel_rfl) (by kernel_rfl) (by kernel_rfl) (by kernel_rfl) (by kernel_rfl) (fun _ _ _ h => h) (by rfl) (fun u _ => by go_simp) hS ?_
  simp only [Act.put, List.setIfInBounds_toArray, List.set_cons_zero, List.set_cons_succ]
  refine wpAnyL_take 2 32 (.slice bo m c2) [3, 4, 5] rfl rfl (by kernel_rfl) (by kernel_rfl) (by kernel_rfl) (by kernel_rfl) (by kernel_rfl) (fun _ _ _ h => h) (by rfl) (fun u _ => by go_simp) hS ?_
  simp only [Act.put, List.setIfInBounds_toArray, List.set_cons_zero, List.set_cons_succ]
  refine wpAnyL_take 3 33 (.int .i64 (m : Int)) [4, 5] rfl rfl (by kernel_rfl) (by kernel_rfl) (by kernel_rfl) (by kernel_rfl) (by kernel_rfl) (fun _ _ _ h => h) (by rfl) (fun u _ => by go_simp) hS ?_
  simp only [Act.put, List.setIfInBounds_toArray, List.set_cons_zero, List.set_cons_succ]
  refine wpAnyL_take 4 34 (.int .i64 (fm : Int)) [5] rfl rfl (by kernel_rfl) (by kernel_rfl) (by kernel_rfl) (by kernel_rfl) (by kernel_rfl) (fun _ _ _ h => h) (by rfl) (fun u _ => by go_simp) hS ?_
  simp only [Act.put, List.setIfInBounds_toArray, List.set_cons_zero, List.set_cons_succ]
  refine wpAnyL_take 5 35 (.slice d3 (r - fm) (r - fm)) [] rfl rfl (by kernel_rfl) (by kernel_rfl) (by kernel_rfl) (by kernel_rfl) (by kernel_rfl) (fun _ _ _ h => h) (by rfl) (fun u _ => by go_simp) hS ?_
  simp only [Act.put, List.setIfInBounds_toArray, List.set_cons_zero, List.set_cons_succ]
  refine wpAnyL_take 6 36 (.slice ao n c) [8] rfl rfl (by kernel_rfl) (by kernel_rfl) (by kernel_rfl) (by kernel_rfl) (by kernel_rfl) (fun _ _ _ h => h) (by rfl) (fun u _ => by go_simp) hS ?_
  simp only [Act.put, List.setIfInBounds_toArray, List.set_cons_zero, List.set_cons_succ]
  refine wpAnyL_take 7 37 (.int .i64 (t : Int)) [8] rfl rfl (by kernel_rfl) (by kernel_rfl) (by kernel_rfl) (by kernel_rfl) (by kernel_rfl) (fun _ _ _ h => h) (by rfl) (fun u _ => by go_simp) hS ?_
  simp only [Act.put, List.setIfInBounds_toArray, List.set_cons_zero, List.set_cons_succ]
  refine wpAnyL_take 8 38 (.slice s3 (n - t) (c - t)) [] rfl rfl (by kernel_rfl) (by kernel_rfl) (by kernel_rfl) (by kernel_rfl) (by kernel_rfl) (fun _ _ _ h => h) (by rfl) (fun u _ => by go_simp) hS ?_
  simp only [Act.put, List.setIfInBounds_toArray, List.set_cons_zero, List.set_cons_succ]
  refine wpAnyL_one (i := 9) (by kernel_rfl) rfl (by rfl) fun K hK => ?_
  refine wp_copyK (.tmp 35) (.tmp 38) 24 24 rfl (some 39) rfl 50 undG 1 (by decide) sizG d3 s3 (r - fm) (r - fm) (n - t) (c - t) rfl rfl N (fm * 1) cur3 50 (unhide HG3) X2 (unhide HN2) (unhide HP2 _ (belowDrewN (unhide HB3) 1)) (unhide HF2) (unhide HO2) ?_
  intro W4 n4 HG4 HU4
  refine hK _ _ (fun h => absurd rfl h) ?_
  clear hK K
  refine wpAnyL_done (by kernel_rfl) ?_ _
  simp only [Act.put, List.setIfInBounds_toArray, List.set_cons_zero, List.set_cons_succ]
  have HG5 : Hid (W4.heap[N]? = some (.cells (X1 ++ (ys ++ X2)).toArray 50 (0, 0))) := by
    have := unhide HG4
    rw [unhide HSP] at this
    exact this
  have HB4 := hide ((belowDrewN (unhide HB3) 1).trans ((unhide HU4).toBelow (Nat.le_of_lt (unhide HZ3)) (Nat.le_refl N)))
  clear HG3 HG4 HU4
  go_wp2
  go_ret
  exact ⟨N, rfl, Nat.le_refl _, unhide HG5, unhide HB4⟩
end Go.Proofs.Ytppmpomfihalfaa
