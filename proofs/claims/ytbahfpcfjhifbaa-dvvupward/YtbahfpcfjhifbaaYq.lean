/- States: awake. -/
import Derived.Test.YtbahfpcfjhifbaaYo
import Derived.Test.YtbahfpcfjhifbaaYp
import Derived.Test.YtbahfpcfjhifbaaXp
namespace Go.Proofs.Ytbahfpcfjhifbaa
open Go.RowKit Go.Lib
def aX : Sb := ⟨1, 1, false, ⟨#[120]⟩⟩
def aY : Sb := ⟨2, 1, false, ⟨#[121]⟩⟩
def aZ : Sb := ⟨1, 2, false, ⟨#[122]⟩⟩
def aA : St := ⟨[(1, 1)], [aX]⟩
def aB : St := ⟨[(2, 1)], [aY]⟩
def aC : St := ⟨[(1, 1), (2, 1)], [aX, aY]⟩
def aO : St := ⟨[(1, 2), (2, 1)], [aZ]⟩
theorem aA_ok : SOk aA := by
  refine ⟨⟨(ok_of (by decide) (by decide) (by decide) : V.Ok [(1, 1)]).toVec, List.pairwise_singleton _ _, fun x hx => ?_, fun x hx => ?_⟩, by decide, by decide⟩
  · rw [List.mem_singleton.1 hx]; decide
  · rw [List.mem_singleton.1 hx]; exact (show (1 : Nat) ≤ 40 by decide)
theorem aB_ok : SOk aB := by
  refine ⟨⟨(ok_of (by decide) (by decide) (by decide) : V.Ok [(2, 1)]).toVec, List.pairwise_singleton _ _, fun x hx => ?_, fun x hx => ?_⟩, by decide, by decide⟩
  · rw [List.mem_singleton.1 hx]; decide
  · rw [List.mem_singleton.1 hx]; exact (show (1 : Nat) ≤ 40 by decide)
theorem aC_ok : SOk aC := by
  refine ⟨⟨(ok_of (by decide) (by decide) (by decide) : V.Ok [(1, 1), (2, 1)]).toVec, ?_, fun x hx => ?_, fun x hx => ?_⟩, by decide, by decide⟩
  · exact List.pairwise_cons.2 ⟨fun x hx => by rw [List.mem_singleton.1 hx]; decide, List.pairwise_singleton _ _⟩
  · rcases List.mem_cons.1 hx with rfl | hx
    · decide
    · rw [List.mem_singleton.1 hx]; decide
  · rcases List.mem_cons.1 hx with rfl | hx
    · exact (show (1 : Nat) ≤ 40 by decide)
    · rw [List.mem_singleton.1 hx]; exact (show (1 : Nat) ≤ 40 by decide)
theorem mayB_small (t : ByteArray) (h : t.size ≤ 40) : mayB false t = true := by unfold mayB; simp [h]
theorem wrong_none (t : ByteArray) (h : t.size ≤ 40) : wrongE St.none [] false t = 0 := wrong_zero.2 ⟨none_ok, ok_nil, mayB_small t h⟩
theorem putA : putV St.none [] 1 ⟨#[120]⟩ false = (aA, (1, 1), 0) := by
  have e : putS St.none [] (putX St.none [] 1 ⟨#[120]⟩ false) = aA := by
    unfold putS putX St.none aA aX
    simp [V.mrg, btw, uns, topc, V.cnt, Sb.dot]
  unfold putV
  rw [if_neg (fun h => h (wrong_none _ (by decide))), if_neg (by simp [topc, V.cnt, St.none]), e, if_pos ⟨by decide, by decide⟩]
  simp [topc, V.cnt, St.none]
theorem putB : putV St.none [] 2 ⟨#[121]⟩ false = (aB, (2, 1), 0) := by
  have e : putS St.none [] (putX St.none [] 2 ⟨#[121]⟩ false) = aB := by
    unfold putS putX St.none aB aY
    simp [V.mrg, btw, uns, topc, V.cnt, Sb.dot]
  unfold putV
  rw [if_neg (fun h => h (wrong_none _ (by decide))), if_neg (by simp [topc, V.cnt, St.none]), e, if_pos ⟨by decide, by decide⟩]
  simp [topc, V.cnt, St.none]
theorem jnAB : jnS aA aB = aC := by
  have c1 : ¬ cov [(2, 1)] (1, 1) := by decide
  have c2 : ¬ cov [(1, 1)] (2, 1) := by decide
  have c3 : ah (1, 1) (2, 1) := by decide
  unfold jnS aA aB aC aX aY
  simp [V.mrg, jn, uns, Sb.dot, c1, c2, c3]
theorem joinAB : joinV aA aB = (aC, 0) := by
  rw [join_ok aA_ok aB_ok (by show (jnS aA aB).seen.length ≤ 64; rw [jnAB]; decide) (by rw [jnAB]; decide), jnAB]
theorem putO : putV aC aC.seen 1 ⟨#[122]⟩ false = (aO, (1, 2), 0) := by
  have c1 : cov [(1, 1), (2, 1)] (1, 1) := by decide
  have c2 : cov [(1, 1), (2, 1)] (2, 1) := by decide
  have e : putS aC aC.seen (putX aC aC.seen 1 ⟨#[122]⟩ false) = aO := by
    unfold putS putX aC aO aX aY aZ
    simp [V.mrg, V.later, btw, uns, topc, V.cnt, Sb.dot, c1, c2]
  unfold putV
  rw [if_neg (fun h => h (wrong_zero.2 ⟨aC_ok, aC_ok.ok, mayB_small _ (by decide)⟩)), if_neg (by simp [topc, V.cnt, aC]), e, if_pos ⟨by decide, by decide⟩]
  simp [topc, V.cnt, aC]
theorem aO_ok : SOk aO := by
  refine ⟨⟨(ok_of (by decide) (by decide) (by decide) : V.Ok [(1, 2), (2, 1)]).toVec, List.pairwise_singleton _ _, fun x hx => ?_, fun x hx => ?_⟩, by decide, by decide⟩
  · rw [List.mem_singleton.1 hx]; decide
  · rw [List.mem_singleton.1 hx]; exact (show (1 : Nat) ≤ 40 by decide)
theorem srt_C : srt [[120], [121]] = [[120], [121]] := by
  unfold srt
  rw [List.mergeSort_of_pairwise (List.pairwise_cons.2 ⟨fun x hx => by rw [List.mem_singleton.1 hx]; decide, List.pairwise_singleton _ _⟩)]
  decide
theorem srt_O : srt [[122]] = [[122]] := by
  unfold srt
  rw [List.mergeSort_of_pairwise (by simp)]
  decide
theorem valsC : valsT aC = [[120], [121]] := by
  unfold valsT
  rw [if_pos aC_ok, show valsL aC.sibs = [[120], [121]] from rfl, srt_C]
theorem valsO : valsT aO = [[122]] := by
  unfold valsT
  rw [if_pos aO_ok, show valsL aO.sibs = [[122]] from rfl, srt_O]
theorem belAC : sbelB aA aC = true := sbelB_iff.2 ⟨aA_ok, aC_ok, by rw [← jnAB]; exact sbel_jn_l aA_ok.toSV aB_ok.toSV⟩
theorem belCA : sbelB aC aA = false := by
  rw [← Bool.not_eq_true, sbelB_iff]
  rintro ⟨_, _, h⟩
  have h1 := h (2, 1)
  have h2 : says aC (2, 1) = .there false ⟨#[121]⟩ := says_mem (s := aC) aC_ok.up (x := aY) (by unfold aC; simp)
  have h3 : says aA (2, 1) = .unseen := (aA_ok.toSV.says_unseen _).2 (by decide)
  rw [h2, h3] at h1
  exact h1
theorem fit_small {s : St} (h1 : s.seen.all (fun d => Decidable.decide (d.1 < 4294967296 ∧ d.2 < 18446744073709551616)) = true) (h2 : s.sibs.all (fun x => Decidable.decide (x.a < 4294967296 ∧ x.c < 18446744073709551616 ∧ x.val.size ≤ 140737488355328)) = true) : FitT s :=
  ⟨fits_ok h1, fun x hx => by have := List.all_eq_true.1 h2 x hx; exact (by simpa using this : x.a < 4294967296 ∧ x.c < 18446744073709551616 ∧ x.val.size ≤ 140737488355328)⟩
theorem SAt.none (w : World) : SAt w St.none Sv.none := ⟨da_none w, Sa.none w⟩
theorem ixT (g n c i : Nat) (hi : i < n) (W : World) : (Instr.indexAt 27 (.slice (some ⟨g, 0, none⟩) n c) (.int .i64 (i : Int))).run Try.prog W = .ok (.pointer (some ⟨g, i, none⟩)) W := by
  have he : Try.prog.elem 27 = 9 := by kernel_rfl
  rw [run_indexAt_slice W 27 _ _ _ _ _ (by rw [he]; kernel_rfl), if_pos ⟨by omega, by omega⟩, he, sizeN (n := 1) (by kernel_rfl)]
  simp only [Result.andThen_ok, Int.toNat_natCast, Addr.add_mid, Nat.zero_add, Nat.mul_one]
theorem OwnX.pos {w : World} {B : Nat} {l : List (List UInt8)} {ao : Option Addr} {c : Nat} (h : OwnX w B l ao c) (h0 : 0 < l.length) : ∃ g, ao = some ⟨g, 0, none⟩ ∧ ∀ i (hi : i < l.length), w.cell? ⟨g, i, none⟩ = some (.string ⟨l[i].toArray⟩) := by
  rcases h.2 with ⟨hv, hn⟩ | ⟨g, cap, cur, hv, _⟩
  · omega
  · cases hv
    refine ⟨g, rfl, fun i hi => ?_⟩
    obtain ⟨g', o', e, hr⟩ := (own_lies h).1 (by simp; omega)
    cases e
    have := hr i (.string ⟨l[i].toArray⟩) (by simp [hi])
    simpa using this
set_option maxRecDepth 100000 in
set_option maxHeartbeats 8000000 in
theorem lAwake (u : World) : Calls Try.prog 34 #[] u fun e u' => e = .returned (.bool true) ∧ Below u.heap.size u u' := by
  have HP1 : Hid (∀ X : World, Calls Try.prog 29 #[Sv.v Sv.none 0 0, .slice none 0 0, .int .u32 1, .string ⟨#[120]⟩, .bool false] X fun e X' => ∃ y, e = .returned (.tuple #[Sv.v y 1 1, .agg #[.int .u32 1, .int .u64 1], .int .i64 0]) ∧ OwnT X' X.heap.size aA y ∧ Below X.heap.size X X') := fun X => (dPut St.none Sv.none [] none 0 0 rfl 1 (by decide) ⟨#[120]⟩ (by decide) false X (SAt.none X) (da_none X) _ _ _ putA).mono fun e X' h => by
    obtain ⟨y, n, m, h1, rfl, rfl, h2, h3⟩ := h
    exact ⟨y, h1, h2, h3⟩
  have HP2 : Hid (∀ X : World, Calls Try.prog 29 #[Sv.v Sv.none 0 0, .slice none 0 0, .int .u32 2, .string ⟨#[121]⟩, .bool false] X fun e X' => ∃ y, e = .returned (.tuple #[Sv.v y 1 1, .agg #[.int .u32 2, .int .u64 1], .int .i64 0]) ∧ OwnT X' X.heap.size aB y ∧ Below X.heap.size X X') := fun X => (dPut St.none Sv.none [] none 0 0 rfl 2 (by decide) ⟨#[121]⟩ (by decide) false X (SAt.none X) (da_none X) _ _ _ putB).mono fun e X' h => by
    obtain ⟨y, n, m, h1, rfl, rfl, h2, h3⟩ := h
    exact ⟨y, h1, h2, h3⟩
  have HJ : Hid (∀ (X : World) (v w : Sv), SAt X aA v → SAt X aB w → Calls Try.prog 26 #[v.v 1 1, w.v 1 1] X fun e X' => ∃ y, e = .returned (.tuple #[Sv.v y 2 2, .int .i64 0]) ∧ OwnT X' X.heap.size aC y ∧ Below X.heap.size X X') := fun X v w hv hw => (dJoin aA aB v w X hv hw _ _ joinAB).mono fun e X' h => by
    obtain ⟨y, n, m, h1, rfl, rfl, h2, h3⟩ := h
    exact ⟨y, h1, h2, h3⟩
  have HP3 : Hid (∀ (X : World) (v : Sv), SAt X aC v → Calls Try.prog 29 #[v.v 2 2, .slice v.sa 2 v.sc, .int .u32 1, .string ⟨#[122]⟩, .bool false] X fun e X' => ∃ y, e = .returned (.tuple #[Sv.v y 2 1, .agg #[.int .u32 1, .int .u64 2], .int .i64 0]) ∧ OwnT X' X.heap.size aO y ∧ Below X.heap.size X X') := fun X v hv => (dPut aC v aC.seen v.sa v.sc 2 rfl 1 (by decide) ⟨#[122]⟩ (by decide) false X hv hv.seen _ _ _ putO).mono fun e X' h => by
    obtain ⟨y, n, m, h1, rfl, rfl, h2, h3⟩ := h
    exact ⟨y, h1, h2, h3⟩
  have HV1 : Hid (∀ (X : World) (v : Sv), SAt X aC v → Calls Try.prog 14 #[v.v 2 2] X fun e X' => ∃ g c, e = .returned (.slice (some ⟨g, 0, none⟩) 2 c) ∧ X'.cell? ⟨g, 0, none⟩ = some (.string ⟨#[120]⟩) ∧ X'.cell? ⟨g, 1, none⟩ = some (.string ⟨#[121]⟩) ∧ Below X.heap.size X X') := fun X v hv => (dValues aC v X hv).mono fun e X' h => by
    obtain ⟨xo, n, c, h1, h2, h3, h4⟩ := h
    rw [valsC] at h2 h3
    subst h2
    obtain ⟨g, rfl, hc⟩ := h3.pos (by decide)
    exact ⟨g, c, h1, hc 0 (by decide), hc 1 (by decide), h4⟩
  have HV2 : Hid (∀ (X : World) (v : Sv), SAt X aO v → Calls Try.prog 14 #[v.v 2 1] X fun e X' => ∃ g c, e = .returned (.slice (some ⟨g, 0, none⟩) 1 c) ∧ X'.cell? ⟨g, 0, none⟩ = some (.string ⟨#[122]⟩) ∧ Below X.heap.size X X') := fun X v hv => (dValues aO v X hv).mono fun e X' h => by
    obtain ⟨xo, n, c, h1, h2, h3, h4⟩ := h
    rw [valsO] at h2 h3
    subst h2
    obtain ⟨g, rfl, hc⟩ := h3.pos (by decide)
    exact ⟨g, c, h1, hc 0 (by decide), h4⟩
  have HB1 : Hid (∀ (X : World) (v w : Sv), SAt X aA v → SAt X aC w → Calls Try.prog 19 #[v.v 1 1, w.v 2 2] X fun e X' => e = .returned (.bool true) ∧ Below X.heap.size X X') := fun X v w hv hw => by have := dBelow aA aC v w X hv hw; rw [belAC] at this; exact this
  have HB2 : Hid (∀ (X : World) (v w : Sv), SAt X aC v → SAt X aA w → Calls Try.prog 19 #[v.v 2 2, w.v 1 1] X fun e X' => e = .returned (.bool false) ∧ Below X.heap.size X X') := fun X v w hv hw => by have := dBelow aC aA v w X hv hw; rw [belCA] at this; exact this
  have HFA : Hid (FitT aA ∧ FitT aB ∧ FitT aC ∧ FitT aO) := ⟨fit_small (by decide) (by decide), fit_small (by decide) (by decide), fit_small (by decide) (by decide), fit_small (by decide) (by decide)⟩
  obtain ⟨N, hN⟩ : ∃ N, N = u.heap.size := ⟨_, rfl⟩
  have HN := hide hN
  rw [← hN]
  clear hN
  go_enter Try.func34, Try.ntmps34
  go_wp2_with (first
    | (go_at_call 29; refine (unhide HP1 u).mono ?_; rintro e W1 ⟨va, rfl, h1, h2⟩; have HW1 := hide h2; have HO1 := hide h1; clear h1 h2 HP1; obtain ⟨N1, hN1⟩ : ∃ k, k = W1.heap.size := ⟨_, rfl⟩; have HN1 := hide hN1; clear hN1)
    | ((with_reducible refine wpList_alloc_state (by rfl) (by rfl) (some 1) (by rfl) N1 (unhide HN1) ?_); intro W2 HX2 HB2' HS2; simp only [Act.put, List.setIfInBounds_toArray, List.set_cons_zero, List.set_cons_succ])
    | ((with_reducible refine wpList_alloc_dot (by rfl) (by rfl) (some 2) (by rfl) (N1 + 1) (unhide HS2).symm ?_); intro W3 HX3 HB3 HS3; simp only [Act.put, List.setIfInBounds_toArray, List.set_cons_zero, List.set_cons_succ]; have HY3 : Hid (W3.heap[N1]? = some (stRow Sv.none 0 0)) := ((unhide HB3).block N1 (Nat.lt_succ_self _)).trans (unhide HX2))
    | ((with_reducible refine wpList_store_state (by rfl) (.tmp 1) (.tmp 17) (by rfl) N1 va 1 1 (by with_unfolding_all rfl) (by with_unfolding_all rfl) Sv.none 0 0 (unhide HY3) ?_); intro W4 HX4 HE4; simp only [Act.put]; have HY4 : Hid (W4.heap[N1 + 1]? = some (.cells #[.int .u32 0, .int .u64 0] 43 (0, 0))) := (by rw [unhide HE4]; exact (heapRow_other _ _ _ _ (by omega)).trans (unhide HX3)))
    | ((with_reducible refine wpList_store_dot (by rfl) (.tmp 2) (.tmp 18) (by rfl) (N1 + 1) 1 1 (by with_unfolding_all rfl) (by with_unfolding_all rfl) (unhide HY4) ?_); intro W5 HX5 HE5; simp only [Act.put]; have HA5 : Hid (W5.heap[N1]? = some (stRow va 1 1)) := (by rw [unhide HE5]; exact (heapRow_other _ _ _ _ (by omega)).trans (unhide HX4)); have HB5 : Hid (Below W1.heap.size W1 W5) := (by rw [unhide HE5, unhide HE4, ← unhide HN1]; exact belowRow (belowRow ((unhide HB2').trans ((unhide HB3).mono (Nat.le_succ _))) (Nat.le_refl _) _) (Nat.le_succ _) _); have HTA : Hid (SAt W5 aA va) := ((unhide HO1).at (unhide HFA).1 aA_ok).below (unhide HB5); have HU5 : Hid (Below N u W5) := (by rw [unhide HN]; exact (unhide HW1).trans ((unhide HB5).mono (unhide HW1).size)); clear HX2 HB2' HS2 HX3 HB3 HS3 HY3 HX4 HE4 HY4 HE5)
    | (go_at_call 29; refine (unhide HP2 W5).mono ?_; rintro e V1 ⟨vb, rfl, h1, h2⟩; have HV1' := hide h2; have HP1' := hide h1; clear h1 h2 HP2; obtain ⟨M1, hM1⟩ : ∃ k, k = V1.heap.size := ⟨_, rfl⟩; have HM1 := hide hM1; clear hM1)
    | ((with_reducible refine wpList_alloc_state (by rfl) (by rfl) (some 4) (by rfl) M1 (unhide HM1) ?_); intro V2 HX2 HB2' HS2; simp only [Act.put, List.setIfInBounds_toArray, List.set_cons_zero, List.set_cons_succ])
    | ((with_reducible refine wpList_alloc_dot (by rfl) (by rfl) (some 5) (by rfl) (M1 + 1) (unhide HS2).symm ?_); intro V3 HX3 HB3 HS3; simp only [Act.put, List.setIfInBounds_toArray, List.set_cons_zero, List.set_cons_succ]; have HY3 : Hid (V3.heap[M1]? = some (stRow Sv.none 0 0)) := ((unhide HB3).block M1 (Nat.lt_succ_self _)).trans (unhide HX2))
    | ((with_reducible refine wpList_store_state (by rfl) (.tmp 4) (.tmp 23) (by rfl) M1 vb 1 1 (by with_unfolding_all rfl) (by with_unfolding_all rfl) Sv.none 0 0 (unhide HY3) ?_); intro V4 HX4 HE4; simp only [Act.put]; have HY4 : Hid (V4.heap[M1 + 1]? = some (.cells #[.int .u32 0, .int .u64 0] 43 (0, 0))) := (by rw [unhide HE4]; exact (heapRow_other _ _ _ _ (by omega)).trans (unhide HX3)))
    | ((with_reducible refine wpList_store_dot (by rfl) (.tmp 5) (.tmp 24) (by rfl) (M1 + 1) 2 1 (by with_unfolding_all rfl) (by with_unfolding_all rfl) (unhide HY4) ?_); intro V5 HX5' HE5; simp only [Act.put]; have HC5 : Hid (V5.heap[M1]? = some (stRow vb 1 1)) := (by rw [unhide HE5]; exact (heapRow_other _ _ _ _ (by omega)).trans (unhide HX4)); have HD5 : Hid (Below V1.heap.size V1 V5) := (by rw [unhide HE5, unhide HE4, ← unhide HM1]; exact belowRow (belowRow ((unhide HB2').trans ((unhide HB3).mono (Nat.le_succ _))) (Nat.le_refl _) _) (Nat.le_succ _) _); have HTB : Hid (SAt V5 aB vb) := ((unhide HP1').at (unhide HFA).2.1 aB_ok).below (unhide HD5); have HF5 : Hid (Below W5.heap.size W5 V5) := (unhide HV1').trans ((unhide HD5).mono (unhide HV1').size); have HA6 := hide (box_below (unhide HA5) (unhide HF5)); have HX6 := hide (box_below (unhide HX5) (unhide HF5)); have HTA6 := hide ((unhide HTA).below (unhide HF5)); have HU6 : Hid (Below N u V5) := (unhide HU5).trans ((unhide HF5).mono (by have := (unhide HU5).size; rw [unhide HN]; exact this)); obtain ⟨x0, x1⟩ := st_cells (unhide HA6); obtain ⟨y0, y1⟩ := st_cells (unhide HC5); clear HX2 HB2' HS2 HX3 HB3 HS3 HY3 HX4 HE4 HY4 HE5)
    | (go_at_call 26; refine (unhide HJ V5 va vb (unhide HTA6) (unhide HTB)).mono ?_; rintro e U1 ⟨vc, rfl, h1, h2⟩; have HQ1 := hide h2; have HQ2 := hide h1; clear h1 h2; obtain ⟨K1, hK1⟩ : ∃ k, k = U1.heap.size := ⟨_, rfl⟩; have HK1 := hide hK1; clear hK1)
    | ((with_reducible refine wpList_alloc_state (by rfl) (by rfl) (some 7) (by rfl) K1 (unhide HK1) ?_); intro U2 HX2 HB2' HS2; simp only [Act.put, List.setIfInBounds_toArray, List.set_cons_zero, List.set_cons_succ])
    | ((with_reducible refine wpList_store_state (by rfl) (.tmp 7) (.tmp 30) (by rfl) K1 vc 2 2 (by with_unfolding_all rfl) (by with_unfolding_all rfl) Sv.none 0 0 (unhide HX2) ?_); intro U3 HC7 HE4; simp only [Act.put]; have HD7 : Hid (Below U1.heap.size U1 U3) := (by rw [unhide HE4, ← unhide HK1]; exact belowRow (unhide HB2') (Nat.le_refl _) _); have HTC : Hid (SAt U3 aC vc) := ((unhide HQ2).at (unhide HFA).2.2.1 aC_ok).below (unhide HD7); have HF7 : Hid (Below V5.heap.size V5 U3) := (unhide HQ1).trans ((unhide HD7).mono (unhide HQ1).size); have HA8 := hide (box_below (unhide HA6) (unhide HF7)); have HX8 := hide (box_below (unhide HX6) (unhide HF7)); have HTA8 := hide ((unhide HTA6).below (unhide HF7)); have HU8 : Hid (Below N u U3) := (unhide HU6).trans ((unhide HF7).mono (by have := (unhide HU6).size; rw [unhide HN]; exact this)); obtain ⟨x0, x1⟩ := st_cells (unhide HC7); clear HX2 HB2' HS2 HE4)
    | (go_at_call 29; refine (unhide HP3 U3 vc (unhide HTC)).mono ?_; rintro e T1 ⟨vo, rfl, h1, h2⟩; have HR1 := hide h2; have HR2 := hide h1; clear h1 h2 HP3; obtain ⟨L1, hL1⟩ : ∃ k, k = T1.heap.size := ⟨_, rfl⟩; have HL1 := hide hL1; clear hL1)
    | ((with_reducible refine wpList_alloc_state (by rfl) (by rfl) (some 9) (by rfl) L1 (unhide HL1) ?_); intro T2 HX2 HB2' HS2; simp only [Act.put, List.setIfInBounds_toArray, List.set_cons_zero, List.set_cons_succ])
    | ((with_reducible refine wpList_alloc_dot (by rfl) (by rfl) (some 10) (by rfl) (L1 + 1) (unhide HS2).symm ?_); intro T3 HX3 HB3 HS3; simp only [Act.put, List.setIfInBounds_toArray, List.set_cons_zero, List.set_cons_succ]; have HY3 : Hid (T3.heap[L1]? = some (stRow Sv.none 0 0)) := ((unhide HB3).block L1 (Nat.lt_succ_self _)).trans (unhide HX2))
    | ((with_reducible refine wpList_store_state (by rfl) (.tmp 9) (.tmp 37) (by rfl) L1 vo 2 1 (by with_unfolding_all rfl) (by with_unfolding_all rfl) Sv.none 0 0 (unhide HY3) ?_); intro T4 HX4 HE4; simp only [Act.put]; have HY4 : Hid (T4.heap[L1 + 1]? = some (.cells #[.int .u32 0, .int .u64 0] 43 (0, 0))) := (by rw [unhide HE4]; exact (heapRow_other _ _ _ _ (by omega)).trans (unhide HX3)))
    | ((with_reducible refine wpList_store_dot (by rfl) (.tmp 10) (.tmp 38) (by rfl) (L1 + 1) 1 2 (by with_unfolding_all rfl) (by with_unfolding_all rfl) (unhide HY4) ?_); intro T5 HX5' HE5; simp only [Act.put]; have HO9 : Hid (T5.heap[L1]? = some (stRow vo 2 1)) := (by rw [unhide HE5]; exact (heapRow_other _ _ _ _ (by omega)).trans (unhide HX4)); have HD9 : Hid (Below T1.heap.size T1 T5) := (by rw [unhide HE5, unhide HE4, ← unhide HL1]; exact belowRow (belowRow ((unhide HB2').trans ((unhide HB3).mono (Nat.le_succ _))) (Nat.le_refl _) _) (Nat.le_succ _) _); have HTO : Hid (SAt T5 aO vo) := ((unhide HR2).at (unhide HFA).2.2.2 aO_ok).below (unhide HD9); have HF9 : Hid (Below U3.heap.size U3 T5) := (unhide HR1).trans ((unhide HD9).mono (unhide HR1).size); have HA9 := hide (box_below (unhide HA8) (unhide HF9)); have HX9 := hide (box_below (unhide HX8) (unhide HF9)); have HC9 := hide (box_below (unhide HC7) (unhide HF9)); have HTA9 := hide ((unhide HTA8).below (unhide HF9)); have HTC9 := hide ((unhide HTC).below (unhide HF9)); have HU9 : Hid (Below N u T5) := (unhide HU8).trans ((unhide HF9).mono (by have := (unhide HU8).size; rw [unhide HN]; exact this)); obtain ⟨x0, x1⟩ := st_cells (unhide HC9); obtain ⟨y0, y1⟩ := st_cells (unhide HO9); clear HX2 HB2' HS2 HX3 HB3 HS3 HY3 HX4 HE4 HY4 HE5)
    | (go_at_call 14; refine (unhide HV1 T5 vc (unhide HTC9)).mono ?_; rintro e S1 ⟨gl, cl, rfl, h1, h2, h3⟩; have HS1 := hide h3; have HL12 := hide (And.intro h1 h2); clear h1 h2 h3 HV1; obtain ⟨y0, y1⟩ := st_cells (box_below (unhide HO9) (unhide HS1)))
    | (go_at_call 14; refine (unhide HV2 S1 vo ((unhide HTO).below (unhide HS1))).mono ?_; rintro e S2 ⟨gm, cm, rfl, h1, h3⟩; have HS2 := hide h3; have HF2 : Hid (Below T5.heap.size T5 S2) := (unhide HS1).trans (h3.mono (unhide HS1).size); have l0 := cell_keep rfl h3 (unhide HL12).1; have l1 := cell_keep rfl h3 (unhide HL12).2; have m0 := h1; clear h1 h3; obtain ⟨x0, x1⟩ := st_cells (box_below (unhide HC9) (unhide HF2)); obtain ⟨y0, y1⟩ := st_cells (box_below (unhide HA9) (unhide HF2)); obtain ⟨z0, z1⟩ := box2 (box_below (unhide HX9) (unhide HF2)); have hi0 := ixT gl 2 cl 0 (by decide); have hi1 := ixT gl 2 cl 1 (by decide); have hj0 := ixT gm 1 cm 0 (by decide); have heq : ∀ W : World, (binOp .eql 43 (.agg #[.int .u32 1, .int .u64 1]) (.agg #[.int .u32 1, .int .u64 1])).run Try.prog W = .ok (.bool true) W := (fun W => by rw [eqlD]; rfl))
    | (go_at_call 19; refine (unhide HB1 S2 va vc ((unhide HTA9).below (unhide HF2)) ((unhide HTC9).below (unhide HF2))).mono ?_; rintro e R1 ⟨rfl, h1⟩; have HR := hide h1; have HF3 : Hid (Below T5.heap.size T5 R1) := (unhide HF2).trans (h1.mono (unhide HF2).size); clear h1 HB1; obtain ⟨x0, x1⟩ := st_cells (box_below (unhide HC9) (unhide HF3)); obtain ⟨y0, y1⟩ := st_cells (box_below (unhide HA9) (unhide HF3)))
    | (go_at_call 19; refine (unhide HB2 R1 vc va ((unhide HTC9).below (unhide HF3)) ((unhide HTA9).below (unhide HF3))).mono ?_; rintro e R2 ⟨rfl, h1⟩; have HF4 : Hid (Below T5.heap.size T5 R2) := (unhide HF3).trans (h1.mono (unhide HF3).size); clear h1)
    | fail)
  go_ret
  exact ⟨rfl, (unhide HU9).trans ((unhide HF4).mono (by have := (unhide HU9).size; rw [unhide HN]; exact this))⟩
end Go.Proofs.Ytbahfpcfjhifbaa
