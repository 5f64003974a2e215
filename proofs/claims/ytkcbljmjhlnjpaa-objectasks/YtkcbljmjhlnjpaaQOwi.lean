/- The law's asks (written by mkowi.py). -/
import Derived.Test.YtkcbljmjhlnjpaaQOwh
namespace Go.Proofs.Ytkcbljmjhlnjpaa
open Go.RowKit Go.Lib
set_option maxRecDepth 100000 in
set_option maxHeartbeats 16000000 in
theorem lAsks {u : World} {o q : Ot} {vx vy va vb : Sv} {n m n' m' : Nat} (wd : Int) (hx : Sx u o.st vx n m) (hy : Sx u q.st vy n' m') (ha : Sx u o.st va n m) (hb : Sx u q.st vb n' m') : Calls Try.prog 14 #[obV o.key vx n m, obV q.key vy n' m', obV o.key va n m, obV q.key vb n' m', .int .i64 wd] u fun e u' => e = .returned (.bool true) ∧ Below u.heap.size u u' := by
  have hmix : Try.prog.follows .mixedOrders = true := by kernel_rfl
  obtain ⟨N, hN⟩ : ∃ N, N = u.heap.size := ⟨_, rfl⟩
  have HN := hide hN
  have HU : Hid (∀ G : World, Below N u G → Below u.heap.size u G) := fun G hG => by rw [← unhide HN]; exact hG
  have HSX := hide hx
  have HSY := hide hy
  have HSA := hide ha
  have HSB := hide hb
  rw [← hN]
  clear hN hx hy ha hb
  have HPQ := hide (qPlace o.key)
  have HPO := hide (oPlace o.key)
  have HKO : Hid (∀ G : World, Calls Try.prog 12 #[.string o.key] G fun e u' => ∃ y, e = .returned y ∧ y = .int .i64 (keyE o.key) ∧ Below G.heap.size G u') := fun G => (oKey o.key G).mono fun e u' ⟨h1, h2⟩ => ⟨_, h1, rfl, by rw [h2]; exact Below.refl _ _⟩
  have HKQ : Hid (∀ G : World, Calls Try.prog 35 #[.string o.key] G fun e u' => ∃ y, e = .returned y ∧ y = .int .i64 (keyE o.key) ∧ Below G.heap.size G u') := fun G => (qKey o.key G).mono fun e u' ⟨h1, h2⟩ => ⟨_, h1, rfl, by rw [h2]; exact Below.refl _ _⟩
  obtain ⟨ce, hce⟩ : ∃ ce, ckE o = ce := ⟨_, rfl⟩
  have HCE := hide hce
  obtain ⟨s1, hs1⟩ : ∃ s1, s1 = (decide (o.key = q.key) && sameB o.st q.st) := ⟨_, rfl⟩
  have HS1E := hide hs1
  obtain ⟨s2, hs2⟩ : ∃ s2, s2 = (decide (q.key = o.key) && sameB q.st o.st) := ⟨_, rfl⟩
  have HS2E := hide hs2
  obtain ⟨fx, fr, hf⟩ : ∃ fx fr, formV o = (fx, fr) := ⟨_, _, rfl⟩
  have HFM := hide hf
  obtain ⟨sx, sr, hsu⟩ : ∃ sx sr, sumV o wd = (sx, sr) := ⟨_, _, rfl⟩
  have HSM := hide hsu
  obtain ⟨ex, ez, er, hen⟩ : ∃ ex ez er, entV o wd = (ex, ez, er) := ⟨_, _, _, rfl⟩
  have HEM := hide hen
  obtain ⟨pk, pz, pr, hpk⟩ : ∃ pk pz pr, packV o = (pk, pz, pr) := ⟨_, _, _, rfl⟩
  have HPM := hide hpk
  have hneE : ∀ G : World, (binOp .neq 71 (.agg #[.string ex, .string ez]) (.agg #[.string ex, .string ez])).run Try.prog G = .ok (.bool false) G := fun G => by rw [neqEn]; simp
  have heqC : ∀ G : World, (binOp .eql 40 (.agg #[.string pk, .string pz]) (.agg #[.string pk, .string pz])).run Try.prog G = .ok (.bool true) G := fun G => by rw [eqlCl]; simp
  clear hce hs1 hs2 hf hsu hen hpk
  generalize keyE o.key = ke at *
  generalize (if ke = 0 then (plN o.key : Int) else 0) = pv at *
  go_enter Try.func14, Try.ntmps14
  go_upto_region 3 with (first
    | ((with_reducible refine wpList_box_ob (by rfl) (.tmp 0) (by rfl) (some 5) (by rfl) (N) (unhide HN) o.key vx n m (by with_unfolding_all rfl) ?_); intro B1 HY1 HA1 HZ1; simp only [Act.put, List.setIfInBounds_toArray, List.set_cons_zero, List.set_cons_succ])
    | ((with_reducible refine wpList_box_ob (by rfl) (.tmp 1) (by rfl) (some 6) (by rfl) (N + 1) (unhide HZ1).symm q.key vy n' m' (by with_unfolding_all rfl) ?_); intro B2 HY2 HA2 HZ2; simp only [Act.put, List.setIfInBounds_toArray, List.set_cons_zero, List.set_cons_succ])
    | ((with_reducible refine wpList_box_ob (by rfl) (.tmp 2) (by rfl) (some 7) (by rfl) (N + 1 + 1) (unhide HZ2).symm o.key va n m (by with_unfolding_all rfl) ?_); intro B3 HY3 HA3 HZ3; simp only [Act.put, List.setIfInBounds_toArray, List.set_cons_zero, List.set_cons_succ])
    | ((with_reducible refine wpList_box_ob (by rfl) (.tmp 3) (by rfl) (some 8) (by rfl) (N + 1 + 1 + 1) (unhide HZ3).symm q.key vb n' m' (by with_unfolding_all rfl) ?_); intro B4 HY4 HA4 HZ4; simp only [Act.put, List.setIfInBounds_toArray, List.set_cons_zero, List.set_cons_succ]; have HBU : Hid (Below N u B4) := (((unhide HA1).trans ((unhide HA2).mono (by omega))).trans ((unhide HA3).mono (by omega))).trans ((unhide HA4).mono (by omega)); have HLX : Hid (Lo B4 (N) o vx n m) := ⟨(unhide HSX).below (unhide HU _ (unhide HBU)), ((unhide HA4).block (N) (by omega)).trans (((unhide HA3).block (N) (by omega)).trans (((unhide HA2).block (N) (by omega)).trans (unhide HY1)))⟩; have HLY : Hid (Lo B4 (N + 1) q vy n' m') := ⟨(unhide HSY).below (unhide HU _ (unhide HBU)), ((unhide HA4).block (N + 1) (by omega)).trans (((unhide HA3).block (N + 1) (by omega)).trans (unhide HY2))⟩; have HLA : Hid (Lo B4 (N + 1 + 1) o va n m) := ⟨(unhide HSA).below (unhide HU _ (unhide HBU)), ((unhide HA4).block (N + 1 + 1) (by omega)).trans (unhide HY3)⟩; have HLB : Hid (Lo B4 (N + 1 + 1 + 1) q vb n' m') := ⟨(unhide HSB).below (unhide HU _ (unhide HBU)), unhide HY4⟩; have HNW : Hid (N ≤ B4.heap.size) := (by show N ≤ B4.heap.size; rw [unhide HZ4]; omega); clear HY1 HA1 HZ1 HY2 HA2 HZ2 HY3 HA3 HZ3 HY4 HA4 HZ4; obtain ⟨c0X, c1X, c2X⟩ := (unhide HLX).cells; obtain ⟨c0Y, c1Y, c2Y⟩ := (unhide HLY).cells; obtain ⟨c0A, c1A, c2A⟩ := (unhide HLA).cells; obtain ⟨c0B, c1B, c2B⟩ := (unhide HLB).cells; )
    | (go_at_call 34; refine (unhide HPQ B4).mono ?_; rintro e U1 ⟨rfl, hb⟩; clear c0X c1X c2X c0Y c1Y c2Y c0A c1A c2A c0B c1B c2B; replace HLX := hide ((unhide HLX).below hb); replace HLY := hide ((unhide HLY).below hb); replace HLA := hide ((unhide HLA).below hb); replace HLB := hide ((unhide HLB).below hb); replace HBU : Hid (Below N u U1) := (unhide HBU).trans (hb.mono (unhide HNW)); replace HNW : Hid (N ≤ U1.heap.size) := Nat.le_trans (unhide HNW) hb.size; clear hb; obtain ⟨c0X, c1X, c2X⟩ := (unhide HLX).cells; obtain ⟨c0Y, c1Y, c2Y⟩ := (unhide HLY).cells; obtain ⟨c0A, c1A, c2A⟩ := (unhide HLA).cells; obtain ⟨c0B, c1B, c2B⟩ := (unhide HLB).cells; )
    | (go_at_call 11; refine (unhide HPO U1).mono ?_; rintro e U2 ⟨rfl, hb⟩; clear c0X c1X c2X c0Y c1Y c2Y c0A c1A c2A c0B c1B c2B; replace HLX := hide ((unhide HLX).below hb); replace HLY := hide ((unhide HLY).below hb); replace HLA := hide ((unhide HLA).below hb); replace HLB := hide ((unhide HLB).below hb); replace HBU : Hid (Below N u U2) := (unhide HBU).trans (hb.mono (unhide HNW)); replace HNW : Hid (N ≤ U2.heap.size) := Nat.le_trans (unhide HNW) hb.size; clear hb; obtain ⟨c0X, c1X, c2X⟩ := (unhide HLX).cells; obtain ⟨c0Y, c1Y, c2Y⟩ := (unhide HLY).cells; obtain ⟨c0A, c1A, c2A⟩ := (unhide HLA).cells; obtain ⟨c0B, c1B, c2B⟩ := (unhide HLB).cells; )
    | fail)
  go_wp2_with fail
  refine wp_region_last (fun V => Below U2.heap.size U2 V) 41 hmix (belowDrew (Below.refl _ _)) fun hS => ?_
  generalize U2.drew = Z0 at hS ⊢
  refine wpAnyL_take 0 35 (.int .i64 pv) [2, 3, 8, 14, 17, 21, 24, 30, 33] rfl rfl (by kernel_rfl) (by kernel_rfl) (by kernel_rfl) (by kernel_rfl) (by kernel_rfl) (fun _ _ _ h => h) (by rfl) (fun _ _ => by go_simp) hS ?_
  simp only [Act.put, List.setIfInBounds_toArray, List.set_cons_zero, List.set_cons_succ]
  refine wpAnyL_take 1 36 (.int .i64 pv) [2, 3, 8, 14, 17, 21, 24, 30, 33] rfl rfl (by kernel_rfl) (by kernel_rfl) (by kernel_rfl) (by kernel_rfl) (by kernel_rfl) (fun _ _ _ h => h) (by rfl) (fun _ _ => by go_simp) hS ?_
  simp only [Act.put, List.setIfInBounds_toArray, List.set_cons_zero, List.set_cons_succ]
  refine wpAnyL_take 2 37 (.bool false) [3, 8, 14, 17, 21, 24, 30, 33] rfl rfl (by kernel_rfl) (by kernel_rfl) (by kernel_rfl) (by kernel_rfl) (by kernel_rfl) (fun _ _ _ h => h) (by rfl) (fun _ _ => by go_simp) hS ?_
  simp only [Act.put, List.setIfInBounds_toArray, List.set_cons_zero, List.set_cons_succ]
  refine wpAnyL_take 3 38 (.bool false) [8, 14, 17, 21, 24, 30, 33] rfl rfl (by kernel_rfl) (by kernel_rfl) (by kernel_rfl) (by kernel_rfl) (by kernel_rfl) (fun _ _ _ h => h) (by rfl) (fun _ _ => by go_simp) hS ?_
  simp only [Act.put, List.setIfInBounds_toArray, List.set_cons_zero, List.set_cons_succ]
  refine wpAnyL_take 4 39 (.int .i64 ke) [6, 7, 8, 14, 17, 21, 24, 30, 33] rfl rfl (by kernel_rfl) (by kernel_rfl) (by kernel_rfl) (by kernel_rfl) (by kernel_rfl) (fun _ _ _ h => h) (by rfl) (fun _ _ => by go_simp) hS ?_
  simp only [Act.put, List.setIfInBounds_toArray, List.set_cons_zero, List.set_cons_succ]
  refine wpAnyL_take 5 40 (.int .i64 ke) [6, 7, 8, 14, 17, 21, 24, 30, 33] rfl rfl (by kernel_rfl) (by kernel_rfl) (by kernel_rfl) (by kernel_rfl) (by kernel_rfl) (fun _ _ _ h => h) (by rfl) (fun _ _ => by go_simp) hS ?_
  simp only [Act.put, List.setIfInBounds_toArray, List.set_cons_zero, List.set_cons_succ]
  refine wpAnyL_take 6 41 (.bool false) [7, 8, 14, 17, 21, 24, 30, 33] rfl rfl (by kernel_rfl) (by kernel_rfl) (by kernel_rfl) (by kernel_rfl) (by kernel_rfl) (fun _ _ _ h => h) (by rfl) (fun _ _ => by go_simp) hS ?_
  simp only [Act.put, List.setIfInBounds_toArray, List.set_cons_zero, List.set_cons_succ]
  refine wpAnyL_take 7 42 (.bool false) [8, 14, 17, 21, 24, 30, 33] rfl rfl (by kernel_rfl) (by kernel_rfl) (by kernel_rfl) (by kernel_rfl) (by kernel_rfl) (fun _ _ _ h => h) (by rfl) (fun _ _ => by go_simp) hS ?_
  simp only [Act.put, List.setIfInBounds_toArray, List.set_cons_zero, List.set_cons_succ]
  refine wpAnyL_take 8 43 (.bool false) [14, 17, 21, 24, 30, 33] rfl rfl (by kernel_rfl) (by kernel_rfl) (by kernel_rfl) (by kernel_rfl) (by kernel_rfl) (fun _ _ _ h => h) (by rfl) (fun _ _ => by go_simp) hS ?_
  simp only [Act.put, List.setIfInBounds_toArray, List.set_cons_zero, List.set_cons_succ]
  refine wpAnyL_take 9 44 (.pointer (some ⟨N, 0, none⟩)) [10, 11, 14, 17, 21, 24, 30, 33] rfl rfl (by kernel_rfl) (by kernel_rfl) (by kernel_rfl) (by kernel_rfl) (by kernel_rfl) (fun _ _ _ h => h) (by rfl) (fun _ _ => by go_simp) hS ?_
  simp only [Act.put, List.setIfInBounds_toArray, List.set_cons_zero, List.set_cons_succ]
  refine wpAnyL_take 10 45 (.string o.key) [11, 14, 17, 21, 24, 30, 33] rfl rfl (by kernel_rfl) (by kernel_rfl) (by kernel_rfl) (by kernel_rfl) (by kernel_rfl) (fun _ _ _ h => h) (by rfl) (fun V hV => by obtain ⟨c0, c1, c2⟩ := ((unhide HLX).below hV).cells; go_simp) hS ?_
  simp only [Act.put, List.setIfInBounds_toArray, List.set_cons_zero, List.set_cons_succ]
  refine wpAnyL_take 12 47 (.pointer (some ⟨N + 1 + 1, 0, none⟩)) [13, 14, 17, 21, 24, 30, 33] rfl rfl (by kernel_rfl) (by kernel_rfl) (by kernel_rfl) (by kernel_rfl) (by kernel_rfl) (fun _ _ _ h => h) (by rfl) (fun _ _ => by go_simp) hS ?_
  simp only [Act.put, List.setIfInBounds_toArray, List.set_cons_zero, List.set_cons_succ]
  refine wpAnyL_take 13 48 (.string o.key) [14, 17, 21, 24, 30, 33] rfl rfl (by kernel_rfl) (by kernel_rfl) (by kernel_rfl) (by kernel_rfl) (by kernel_rfl) (fun _ _ _ h => h) (by rfl) (fun V hV => by obtain ⟨c0, c1, c2⟩ := ((unhide HLA).below hV).cells; go_simp) hS ?_
  simp only [Act.put, List.setIfInBounds_toArray, List.set_cons_zero, List.set_cons_succ]
  refine wpAnyL_one (i := 11) (by kernel_rfl) rfl (by rfl) fun K hK => ?_
  refine wp_call_fn 12 _ _ (by rfl) #[.string o.key] (by with_unfolding_all rfl) (ent_lit _ (by kernel_rfl)) (some 46) (by rfl) _ (unhide HKO Z0) ?_
  rintro _ Z1 ⟨rfl, hbx⟩
  have HS1 : Hid (Below U2.heap.size U2 Z1) := (hS).trans (hbx.mono (hS).size)
  clear hbx
  refine hK _ _ (fun _ => unhide HS1) ?_
  clear hK K
  simp only [Act.put, List.setIfInBounds_toArray, List.set_cons_zero, List.set_cons_succ]
  refine wpAnyL_one (i := 14) (by kernel_rfl) rfl (by rfl) fun K hK => ?_
  refine wp_call_fn 35 _ _ (by rfl) #[.string o.key] (by with_unfolding_all rfl) (ent_lit _ (by kernel_rfl)) (some 49) (by rfl) _ (unhide HKQ Z1) ?_
  rintro _ Z2 ⟨rfl, hbx⟩
  have HS2 : Hid (Below U2.heap.size U2 Z2) := (unhide HS1).trans (hbx.mono (unhide HS1).size)
  clear hbx
  refine hK _ _ (fun _ => unhide HS2) ?_
  clear hK K
  simp only [Act.put, List.setIfInBounds_toArray, List.set_cons_zero, List.set_cons_succ]
  refine wpAnyL_take 15 50 (.bool false) [16, 17, 21, 24, 30, 33] rfl rfl (by kernel_rfl) (by kernel_rfl) (by kernel_rfl) (by kernel_rfl) (by kernel_rfl) (fun _ _ _ h => h) (by rfl) (fun _ _ => by go_simp) (unhide HS2) ?_
  simp only [Act.put, List.setIfInBounds_toArray, List.set_cons_zero, List.set_cons_succ]
  refine wpAnyL_take 16 51 (.bool false) [17, 21, 24, 30, 33] rfl rfl (by kernel_rfl) (by kernel_rfl) (by kernel_rfl) (by kernel_rfl) (by kernel_rfl) (fun _ _ _ h => h) (by rfl) (fun _ _ => by go_simp) (unhide HS2) ?_
  simp only [Act.put, List.setIfInBounds_toArray, List.set_cons_zero, List.set_cons_succ]
  refine wpAnyL_take 17 52 (.bool false) [21, 24, 30, 33] rfl rfl (by kernel_rfl) (by kernel_rfl) (by kernel_rfl) (by kernel_rfl) (by kernel_rfl) (fun _ _ _ h => h) (by rfl) (fun _ _ => by go_simp) (unhide HS2) ?_
  simp only [Act.put, List.setIfInBounds_toArray, List.set_cons_zero, List.set_cons_succ]
  refine wpAnyL_take 18 53 (obV o.key vx n m) [19, 21, 24, 30, 33] rfl rfl (by kernel_rfl) (by kernel_rfl) (by kernel_rfl) (by kernel_rfl) (by kernel_rfl) (fun _ _ _ h => h) (by rfl) (fun V hV => by obtain ⟨c0, c1, c2⟩ := ((unhide HLX).below hV).cells; simp only [obV]; go_simp) (unhide HS2) ?_
  simp only [Act.put, List.setIfInBounds_toArray, List.set_cons_zero, List.set_cons_succ]
  refine wpAnyL_take 20 55 (obV o.key va n m) [21, 24, 30, 33] rfl rfl (by kernel_rfl) (by kernel_rfl) (by kernel_rfl) (by kernel_rfl) (by kernel_rfl) (fun _ _ _ h => h) (by rfl) (fun V hV => by obtain ⟨c0, c1, c2⟩ := ((unhide HLA).below hV).cells; simp only [obV]; go_simp) (unhide HS2) ?_
  simp only [Act.put, List.setIfInBounds_toArray, List.set_cons_zero, List.set_cons_succ]
  refine wpAnyL_one (i := 19) (by kernel_rfl) rfl (by rfl) fun K hK => ?_
  refine wp_call_fn 30 _ _ (by rfl) #[obV o.key vx n m] (by with_unfolding_all rfl) (ent_lit _ (by kernel_rfl)) (some 54) (by rfl) _ (asV (oCheck (o := o) ((unhide HLX).toSx.below (unhide HS2)) ce (unhide HCE))) ?_
  rintro _ Z3 ⟨rfl, hbx⟩
  have HS3 : Hid (Below U2.heap.size U2 Z3) := (unhide HS2).trans (hbx.mono (unhide HS2).size)
  clear hbx
  refine hK _ _ (fun _ => unhide HS3) ?_
  clear hK K
  simp only [Act.put, List.setIfInBounds_toArray, List.set_cons_zero, List.set_cons_succ]
  refine wpAnyL_one (i := 21) (by kernel_rfl) rfl (by rfl) fun K hK => ?_
  refine wp_call_fn 36 _ _ (by rfl) #[obV o.key va n m] (by with_unfolding_all rfl) (ent_lit _ (by kernel_rfl)) (some 56) (by rfl) _ (asV (qCheck (o := o) ((unhide HLA).toSx.below (unhide HS3)) ce (unhide HCE))) ?_
  rintro _ Z4 ⟨rfl, hbx⟩
  have HS4 : Hid (Below U2.heap.size U2 Z4) := (unhide HS3).trans (hbx.mono (unhide HS3).size)
  clear hbx
  refine hK _ _ (fun _ => unhide HS4) ?_
  clear hK K
  simp only [Act.put, List.setIfInBounds_toArray, List.set_cons_zero, List.set_cons_succ]
  refine wpAnyL_take 22 57 (.bool false) [23, 24, 30, 33] rfl rfl (by kernel_rfl) (by kernel_rfl) (by kernel_rfl) (by kernel_rfl) (by kernel_rfl) (fun _ _ _ h => h) (by rfl) (fun _ _ => by go_simp) (unhide HS4) ?_
  simp only [Act.put, List.setIfInBounds_toArray, List.set_cons_zero, List.set_cons_succ]
  refine wpAnyL_take 23 58 (.bool false) [24, 30, 33] rfl rfl (by kernel_rfl) (by kernel_rfl) (by kernel_rfl) (by kernel_rfl) (by kernel_rfl) (fun _ _ _ h => h) (by rfl) (fun _ _ => by go_simp) (unhide HS4) ?_
  simp only [Act.put, List.setIfInBounds_toArray, List.set_cons_zero, List.set_cons_succ]
  refine wpAnyL_take 24 59 (.bool false) [30, 33] rfl rfl (by kernel_rfl) (by kernel_rfl) (by kernel_rfl) (by kernel_rfl) (by kernel_rfl) (fun _ _ _ h => h) (by rfl) (fun _ _ => by go_simp) (unhide HS4) ?_
  simp only [Act.put, List.setIfInBounds_toArray, List.set_cons_zero, List.set_cons_succ]
  refine wpAnyL_take 25 60 (obV o.key vx n m) [27, 30, 33] rfl rfl (by kernel_rfl) (by kernel_rfl) (by kernel_rfl) (by kernel_rfl) (by kernel_rfl) (fun _ _ _ h => h) (by rfl) (fun V hV => by obtain ⟨c0, c1, c2⟩ := ((unhide HLX).below hV).cells; simp only [obV]; go_simp) (unhide HS4) ?_
  simp only [Act.put, List.setIfInBounds_toArray, List.set_cons_zero, List.set_cons_succ]
  refine wpAnyL_take 26 61 (obV q.key vy n' m') [27, 30, 33] rfl rfl (by kernel_rfl) (by kernel_rfl) (by kernel_rfl) (by kernel_rfl) (by kernel_rfl) (fun _ _ _ h => h) (by rfl) (fun V hV => by obtain ⟨c0, c1, c2⟩ := ((unhide HLY).below hV).cells; simp only [obV]; go_simp) (unhide HS4) ?_
  simp only [Act.put, List.setIfInBounds_toArray, List.set_cons_zero, List.set_cons_succ]
  refine wpAnyL_take 28 63 (obV o.key va n m) [30, 33] rfl rfl (by kernel_rfl) (by kernel_rfl) (by kernel_rfl) (by kernel_rfl) (by kernel_rfl) (fun _ _ _ h => h) (by rfl) (fun V hV => by obtain ⟨c0, c1, c2⟩ := ((unhide HLA).below hV).cells; simp only [obV]; go_simp) (unhide HS4) ?_
  simp only [Act.put, List.setIfInBounds_toArray, List.set_cons_zero, List.set_cons_succ]
  refine wpAnyL_take 29 64 (obV q.key vb n' m') [30, 33] rfl rfl (by kernel_rfl) (by kernel_rfl) (by kernel_rfl) (by kernel_rfl) (by kernel_rfl) (fun _ _ _ h => h) (by rfl) (fun V hV => by obtain ⟨c0, c1, c2⟩ := ((unhide HLB).below hV).cells; simp only [obV]; go_simp) (unhide HS4) ?_
  simp only [Act.put, List.setIfInBounds_toArray, List.set_cons_zero, List.set_cons_succ]
  refine wpAnyL_one (i := 27) (by kernel_rfl) rfl (by rfl) fun K hK => ?_
  refine wp_call_fn 29 _ _ (by rfl) #[obV o.key vx n m, obV q.key vy n' m'] (by with_unfolding_all rfl) (ent_lit _ (by kernel_rfl)) (some 62) (by rfl) _ (asV (oSame (o := o) (q := q) ((unhide HLX).toSx.below (unhide HS4)) ((unhide HLY).toSx.below (unhide HS4)) s1 (unhide HS1E))) ?_
  rintro _ Z5 ⟨rfl, hbx⟩
  have HS5 : Hid (Below U2.heap.size U2 Z5) := (unhide HS4).trans (hbx.mono (unhide HS4).size)
  clear hbx
  refine hK _ _ (fun _ => unhide HS5) ?_
  clear hK K
  simp only [Act.put, List.setIfInBounds_toArray, List.set_cons_zero, List.set_cons_succ]
  refine wpAnyL_one (i := 30) (by kernel_rfl) rfl (by rfl) fun K hK => ?_
  refine wp_call_fn 37 _ _ (by rfl) #[obV o.key va n m, obV q.key vb n' m'] (by with_unfolding_all rfl) (ent_lit _ (by kernel_rfl)) (some 65) (by rfl) _ (asV (qSame (o := o) (q := q) ((unhide HLA).toSx.below (unhide HS5)) ((unhide HLB).toSx.below (unhide HS5)) s1 (unhide HS1E))) ?_
  rintro _ Z6 ⟨rfl, hbx⟩
  have HS6 : Hid (Below U2.heap.size U2 Z6) := (unhide HS5).trans (hbx.mono (unhide HS5).size)
  clear hbx
  refine hK _ _ (fun _ => unhide HS6) ?_
  clear hK K
  simp only [Act.put, List.setIfInBounds_toArray, List.set_cons_zero, List.set_cons_succ]
  refine wpAnyL_take 31 66 (.bool false) [32, 33] rfl rfl (by kernel_rfl) (by kernel_rfl) (by kernel_rfl) (by kernel_rfl) (by kernel_rfl) (fun _ _ _ h => h) (by rfl) (fun _ _ => by go_simp) (unhide HS6) ?_
  simp only [Act.put, List.setIfInBounds_toArray, List.set_cons_zero, List.set_cons_succ]
  refine wpAnyL_take 32 67 (.bool false) [33] rfl rfl (by kernel_rfl) (by kernel_rfl) (by kernel_rfl) (by kernel_rfl) (by kernel_rfl) (fun _ _ _ h => h) (by rfl) (fun _ _ => by go_simp) (unhide HS6) ?_
  simp only [Act.put, List.setIfInBounds_toArray, List.set_cons_zero, List.set_cons_succ]
  refine wpAnyL_take 33 68 (.bool false) [] rfl rfl (by kernel_rfl) (by kernel_rfl) (by kernel_rfl) (by kernel_rfl) (by kernel_rfl) (fun _ _ _ h => h) (by rfl) (fun _ _ => by go_simp) (unhide HS6) ?_
  simp only [Act.put, List.setIfInBounds_toArray, List.set_cons_zero, List.set_cons_succ]
  refine wpAnyL_take 34 69 (obV q.key vy n' m') [36, 40] rfl rfl (by kernel_rfl) (by kernel_rfl) (by kernel_rfl) (by kernel_rfl) (by kernel_rfl) (fun _ _ _ h => h) (by rfl) (fun V hV => by obtain ⟨c0, c1, c2⟩ := ((unhide HLY).below hV).cells; simp only [obV]; go_simp) (unhide HS6) ?_
  simp only [Act.put, List.setIfInBounds_toArray, List.set_cons_zero, List.set_cons_succ]
  refine wpAnyL_take 35 70 (obV o.key vx n m) [36, 40] rfl rfl (by kernel_rfl) (by kernel_rfl) (by kernel_rfl) (by kernel_rfl) (by kernel_rfl) (fun _ _ _ h => h) (by rfl) (fun V hV => by obtain ⟨c0, c1, c2⟩ := ((unhide HLX).below hV).cells; simp only [obV]; go_simp) (unhide HS6) ?_
  simp only [Act.put, List.setIfInBounds_toArray, List.set_cons_zero, List.set_cons_succ]
  refine wpAnyL_take 37 72 (obV q.key vb n' m') [39, 40] rfl rfl (by kernel_rfl) (by kernel_rfl) (by kernel_rfl) (by kernel_rfl) (by kernel_rfl) (fun _ _ _ h => h) (by rfl) (fun V hV => by obtain ⟨c0, c1, c2⟩ := ((unhide HLB).below hV).cells; simp only [obV]; go_simp) (unhide HS6) ?_
  simp only [Act.put, List.setIfInBounds_toArray, List.set_cons_zero, List.set_cons_succ]
  refine wpAnyL_take 38 73 (obV o.key va n m) [39, 40] rfl rfl (by kernel_rfl) (by kernel_rfl) (by kernel_rfl) (by kernel_rfl) (by kernel_rfl) (fun _ _ _ h => h) (by rfl) (fun V hV => by obtain ⟨c0, c1, c2⟩ := ((unhide HLA).below hV).cells; simp only [obV]; go_simp) (unhide HS6) ?_
  simp only [Act.put, List.setIfInBounds_toArray, List.set_cons_zero, List.set_cons_succ]
  refine wpAnyL_one (i := 36) (by kernel_rfl) rfl (by rfl) fun K hK => ?_
  refine wp_call_fn 29 _ _ (by rfl) #[obV q.key vy n' m', obV o.key vx n m] (by with_unfolding_all rfl) (ent_lit _ (by kernel_rfl)) (some 71) (by rfl) _ (asV (oSame (o := q) (q := o) ((unhide HLY).toSx.below (unhide HS6)) ((unhide HLX).toSx.below (unhide HS6)) s2 (unhide HS2E))) ?_
  rintro _ Z7 ⟨rfl, hbx⟩
  have HS7 : Hid (Below U2.heap.size U2 Z7) := (unhide HS6).trans (hbx.mono (unhide HS6).size)
  clear hbx
  refine hK _ _ (fun _ => unhide HS7) ?_
  clear hK K
  simp only [Act.put, List.setIfInBounds_toArray, List.set_cons_zero, List.set_cons_succ]
  refine wpAnyL_one (i := 39) (by kernel_rfl) rfl (by rfl) fun K hK => ?_
  refine wp_call_fn 37 _ _ (by rfl) #[obV q.key vb n' m', obV o.key va n m] (by with_unfolding_all rfl) (ent_lit _ (by kernel_rfl)) (some 74) (by rfl) _ (asV (qSame (o := q) (q := o) ((unhide HLB).toSx.below (unhide HS7)) ((unhide HLA).toSx.below (unhide HS7)) s2 (unhide HS2E))) ?_
  rintro _ Z8 ⟨rfl, hbx⟩
  have HS8 : Hid (Below U2.heap.size U2 Z8) := (unhide HS7).trans (hbx.mono (unhide HS7).size)
  clear hbx
  refine hK _ _ (fun _ => unhide HS8) ?_
  clear hK K
  simp only [Act.put, List.setIfInBounds_toArray, List.set_cons_zero, List.set_cons_succ]
  refine wpAnyL_take 40 75 (.bool false) [] rfl rfl (by kernel_rfl) (by kernel_rfl) (by kernel_rfl) (by kernel_rfl) (by kernel_rfl) (fun _ _ _ h => h) (by rfl) (fun _ _ => by go_simp) (unhide HS8) ?_
  simp only [Act.put, List.setIfInBounds_toArray, List.set_cons_zero, List.set_cons_succ]
  refine wpAnyL_one (i := 41) (by kernel_rfl) rfl (by rfl) fun K hK => ?_
  refine wp_val (.bool false) (by go_simp) (some 76) (by rfl) ?_
  refine hK _ _ (fun _ => unhide HS8) ?_
  clear hK K
  simp only [Act.put, List.setIfInBounds_toArray, List.set_cons_zero, List.set_cons_succ]
  refine wpAnyL_done (by kernel_rfl) ?_ _
  replace HLX := hide ((unhide HLX).below (unhide HS8))
  replace HLY := hide ((unhide HLY).below (unhide HS8))
  replace HLA := hide ((unhide HLA).below (unhide HS8))
  replace HLB := hide ((unhide HLB).below (unhide HS8))
  replace HBU : Hid (Below N u Z8) := (unhide HBU).trans ((unhide HS8).mono (unhide HNW))
  replace HNW : Hid (N ≤ Z8.heap.size) := Nat.le_trans (unhide HNW) (unhide HS8).size
  clear hS HS1 HS2 HS3 HS4 HS5 HS6 HS7 HS8
  obtain ⟨c0X, c1X, c2X⟩ := (unhide HLX).cells
  obtain ⟨c0Y, c1Y, c2Y⟩ := (unhide HLY).cells
  obtain ⟨c0A, c1A, c2A⟩ := (unhide HLA).cells
  obtain ⟨c0B, c1B, c2B⟩ := (unhide HLB).cells
  go_wp2_with (first
    | (go_at_call 38; refine (qForm (o := o) (unhide HLA).toSx _ _ (unhide HFM)).mono ?_; rintro e U3 ⟨rfl, hb⟩; clear c0X c1X c2X c0Y c1Y c2Y c0A c1A c2A c0B c1B c2B; replace HLX := hide ((unhide HLX).below hb); replace HLY := hide ((unhide HLY).below hb); replace HLA := hide ((unhide HLA).below hb); replace HLB := hide ((unhide HLB).below hb); replace HBU : Hid (Below N u U3) := (unhide HBU).trans (hb.mono (unhide HNW)); replace HNW : Hid (N ≤ U3.heap.size) := Nat.le_trans (unhide HNW) hb.size; clear hb; obtain ⟨c0X, c1X, c2X⟩ := (unhide HLX).cells; obtain ⟨c0Y, c1Y, c2Y⟩ := (unhide HLY).cells; obtain ⟨c0A, c1A, c2A⟩ := (unhide HLA).cells; obtain ⟨c0B, c1B, c2B⟩ := (unhide HLB).cells; )
    | (go_at_call 31; refine (oForm (o := o) (unhide HLX).toSx _ _ (unhide HFM)).mono ?_; rintro e U4 ⟨rfl, hb⟩; clear c0X c1X c2X c0Y c1Y c2Y c0A c1A c2A c0B c1B c2B; replace HLX := hide ((unhide HLX).below hb); replace HLY := hide ((unhide HLY).below hb); replace HLA := hide ((unhide HLA).below hb); replace HLB := hide ((unhide HLB).below hb); replace HBU : Hid (Below N u U4) := (unhide HBU).trans (hb.mono (unhide HNW)); replace HNW : Hid (N ≤ U4.heap.size) := Nat.le_trans (unhide HNW) hb.size; clear hb; obtain ⟨c0X, c1X, c2X⟩ := (unhide HLX).cells; obtain ⟨c0Y, c1Y, c2Y⟩ := (unhide HLY).cells; obtain ⟨c0A, c1A, c2A⟩ := (unhide HLA).cells; obtain ⟨c0B, c1B, c2B⟩ := (unhide HLB).cells; )
    | (go_at_call 39; refine (qSum (o := o) (unhide HLA).toSx wd _ _ (unhide HSM)).mono ?_; rintro e U5 ⟨rfl, hb⟩; clear c0X c1X c2X c0Y c1Y c2Y c0A c1A c2A c0B c1B c2B; replace HLX := hide ((unhide HLX).below hb); replace HLY := hide ((unhide HLY).below hb); replace HLA := hide ((unhide HLA).below hb); replace HLB := hide ((unhide HLB).below hb); replace HBU : Hid (Below N u U5) := (unhide HBU).trans (hb.mono (unhide HNW)); replace HNW : Hid (N ≤ U5.heap.size) := Nat.le_trans (unhide HNW) hb.size; clear hb; obtain ⟨c0X, c1X, c2X⟩ := (unhide HLX).cells; obtain ⟨c0Y, c1Y, c2Y⟩ := (unhide HLY).cells; obtain ⟨c0A, c1A, c2A⟩ := (unhide HLA).cells; obtain ⟨c0B, c1B, c2B⟩ := (unhide HLB).cells; )
    | (go_at_call 32; refine (oSum (o := o) (unhide HLX).toSx wd _ _ (unhide HSM)).mono ?_; rintro e U6 ⟨rfl, hb⟩; clear c0X c1X c2X c0Y c1Y c2Y c0A c1A c2A c0B c1B c2B; replace HLX := hide ((unhide HLX).below hb); replace HLY := hide ((unhide HLY).below hb); replace HLA := hide ((unhide HLA).below hb); replace HLB := hide ((unhide HLB).below hb); replace HBU : Hid (Below N u U6) := (unhide HBU).trans (hb.mono (unhide HNW)); replace HNW : Hid (N ≤ U6.heap.size) := Nat.le_trans (unhide HNW) hb.size; clear hb; obtain ⟨c0X, c1X, c2X⟩ := (unhide HLX).cells; obtain ⟨c0Y, c1Y, c2Y⟩ := (unhide HLY).cells; obtain ⟨c0A, c1A, c2A⟩ := (unhide HLA).cells; obtain ⟨c0B, c1B, c2B⟩ := (unhide HLB).cells; )
    | (go_at_call 40; refine (qEntry (o := o) (unhide HLA).toSx wd _ _ _ (unhide HEM)).mono ?_; rintro e U7 ⟨rfl, hb⟩; clear c0X c1X c2X c0Y c1Y c2Y c0A c1A c2A c0B c1B c2B; replace HLX := hide ((unhide HLX).below hb); replace HLY := hide ((unhide HLY).below hb); replace HLA := hide ((unhide HLA).below hb); replace HLB := hide ((unhide HLB).below hb); replace HBU : Hid (Below N u U7) := (unhide HBU).trans (hb.mono (unhide HNW)); replace HNW : Hid (N ≤ U7.heap.size) := Nat.le_trans (unhide HNW) hb.size; clear hb; obtain ⟨c0X, c1X, c2X⟩ := (unhide HLX).cells; obtain ⟨c0Y, c1Y, c2Y⟩ := (unhide HLY).cells; obtain ⟨c0A, c1A, c2A⟩ := (unhide HLA).cells; obtain ⟨c0B, c1B, c2B⟩ := (unhide HLB).cells; )
    | ((with_reducible refine wpList_alloc_en (by rfl) (by rfl) (some 19) (by rfl) _ rfl ?_); intro U8 HY HA HZ; obtain ⟨KE1, hKE1⟩ : ∃ k, k = U7.heap.size := ⟨_, rfl⟩; rw [← hKE1] at HY HA HZ ⊢; have HEKE1 := hide hKE1; clear hKE1; simp only [Act.put, List.setIfInBounds_toArray, List.set_cons_zero, List.set_cons_succ])
    | ((with_reducible refine wpList_store_en (by rfl) (.tmp 19) (.tmp 119) (by rfl) KE1 ex ez (by with_unfolding_all rfl) (by with_unfolding_all rfl) _ _ (unhide HY) ?_); intro U9 HYY HEE; simp only [Act.put]; have hb : Below U7.heap.size U7 U9 := (by rw [unhide HEE, ← unhide HEKE1]; exact belowRow (unhide HA) (Nat.le_refl _) _); clear c0X c1X c2X c0Y c1Y c2Y c0A c1A c2A c0B c1B c2B; replace HLX := hide ((unhide HLX).below hb); replace HLY := hide ((unhide HLY).below hb); replace HLA := hide ((unhide HLA).below hb); replace HLB := hide ((unhide HLB).below hb); replace HBU : Hid (Below N u U9) := (unhide HBU).trans (hb.mono (unhide HNW)); replace HNW : Hid (N ≤ U9.heap.size) := Nat.le_trans (unhide HNW) hb.size; have HCE1 := HYY; clear hb HY HA HZ HYY HEE HEKE1; obtain ⟨c0X, c1X, c2X⟩ := (unhide HLX).cells; obtain ⟨c0Y, c1Y, c2Y⟩ := (unhide HLY).cells; obtain ⟨c0A, c1A, c2A⟩ := (unhide HLA).cells; obtain ⟨c0B, c1B, c2B⟩ := (unhide HLB).cells; obtain ⟨c0E1, c1E1⟩ := en_cells (unhide HCE1); )
    | (go_at_call 41; refine (oEntry (o := o) (unhide HLX).toSx wd _ _ _ (unhide HEM)).mono ?_; rintro e U10 ⟨rfl, hb⟩; clear c0X c1X c2X c0Y c1Y c2Y c0A c1A c2A c0B c1B c2B c0E1 c1E1; replace HLX := hide ((unhide HLX).below hb); replace HLY := hide ((unhide HLY).below hb); replace HLA := hide ((unhide HLA).below hb); replace HLB := hide ((unhide HLB).below hb); replace HCE1 := hide (box_below (unhide HCE1) hb); replace HBU : Hid (Below N u U10) := (unhide HBU).trans (hb.mono (unhide HNW)); replace HNW : Hid (N ≤ U10.heap.size) := Nat.le_trans (unhide HNW) hb.size; clear hb; obtain ⟨c0X, c1X, c2X⟩ := (unhide HLX).cells; obtain ⟨c0Y, c1Y, c2Y⟩ := (unhide HLY).cells; obtain ⟨c0A, c1A, c2A⟩ := (unhide HLA).cells; obtain ⟨c0B, c1B, c2B⟩ := (unhide HLB).cells; obtain ⟨c0E1, c1E1⟩ := en_cells (unhide HCE1); )
    | ((with_reducible refine wpList_alloc_en (by rfl) (by rfl) (some 20) (by rfl) _ rfl ?_); intro U11 HY HA HZ; obtain ⟨KE2, hKE2⟩ : ∃ k, k = U10.heap.size := ⟨_, rfl⟩; rw [← hKE2] at HY HA HZ ⊢; have HEKE2 := hide hKE2; clear hKE2; simp only [Act.put, List.setIfInBounds_toArray, List.set_cons_zero, List.set_cons_succ])
    | ((with_reducible refine wpList_store_en (by rfl) (.tmp 20) (.tmp 125) (by rfl) KE2 ex ez (by with_unfolding_all rfl) (by with_unfolding_all rfl) _ _ (unhide HY) ?_); intro U12 HYY HEE; simp only [Act.put]; have hb : Below U10.heap.size U10 U12 := (by rw [unhide HEE, ← unhide HEKE2]; exact belowRow (unhide HA) (Nat.le_refl _) _); clear c0X c1X c2X c0Y c1Y c2Y c0A c1A c2A c0B c1B c2B c0E1 c1E1; replace HLX := hide ((unhide HLX).below hb); replace HLY := hide ((unhide HLY).below hb); replace HLA := hide ((unhide HLA).below hb); replace HLB := hide ((unhide HLB).below hb); replace HCE1 := hide (box_below (unhide HCE1) hb); replace HBU : Hid (Below N u U12) := (unhide HBU).trans (hb.mono (unhide HNW)); replace HNW : Hid (N ≤ U12.heap.size) := Nat.le_trans (unhide HNW) hb.size; have HCE2 := HYY; clear hb HY HA HZ HYY HEE HEKE2; obtain ⟨c0X, c1X, c2X⟩ := (unhide HLX).cells; obtain ⟨c0Y, c1Y, c2Y⟩ := (unhide HLY).cells; obtain ⟨c0A, c1A, c2A⟩ := (unhide HLA).cells; obtain ⟨c0B, c1B, c2B⟩ := (unhide HLB).cells; obtain ⟨c0E1, c1E1⟩ := en_cells (unhide HCE1); obtain ⟨c0E2, c1E2⟩ := en_cells (unhide HCE2); )
    | (go_at_call 42; refine (qPack (o := o) (unhide HLA).toSx _ _ _ (unhide HPM)).mono ?_; rintro e U13 ⟨rfl, hb⟩; clear c0X c1X c2X c0Y c1Y c2Y c0A c1A c2A c0B c1B c2B c0E1 c1E1 c0E2 c1E2; replace HLX := hide ((unhide HLX).below hb); replace HLY := hide ((unhide HLY).below hb); replace HLA := hide ((unhide HLA).below hb); replace HLB := hide ((unhide HLB).below hb); replace HCE1 := hide (box_below (unhide HCE1) hb); replace HCE2 := hide (box_below (unhide HCE2) hb); replace HBU : Hid (Below N u U13) := (unhide HBU).trans (hb.mono (unhide HNW)); replace HNW : Hid (N ≤ U13.heap.size) := Nat.le_trans (unhide HNW) hb.size; clear hb; obtain ⟨c0X, c1X, c2X⟩ := (unhide HLX).cells; obtain ⟨c0Y, c1Y, c2Y⟩ := (unhide HLY).cells; obtain ⟨c0A, c1A, c2A⟩ := (unhide HLA).cells; obtain ⟨c0B, c1B, c2B⟩ := (unhide HLB).cells; obtain ⟨c0E1, c1E1⟩ := en_cells (unhide HCE1); obtain ⟨c0E2, c1E2⟩ := en_cells (unhide HCE2); )
    | ((with_reducible refine wpList_alloc_ce (by rfl) (by rfl) (some 21) (by rfl) _ rfl ?_); intro U14 HY HA HZ; obtain ⟨KC1, hKC1⟩ : ∃ k, k = U13.heap.size := ⟨_, rfl⟩; rw [← hKC1] at HY HA HZ ⊢; have HEKC1 := hide hKC1; clear hKC1; simp only [Act.put, List.setIfInBounds_toArray, List.set_cons_zero, List.set_cons_succ])
    | ((with_reducible refine wpList_store_ce (by rfl) (.tmp 21) (.tmp 138) (by rfl) KC1 pk pz (by with_unfolding_all rfl) (by with_unfolding_all rfl) _ _ (unhide HY) ?_); intro U15 HYY HEE; simp only [Act.put]; have hb : Below U13.heap.size U13 U15 := (by rw [unhide HEE, ← unhide HEKC1]; exact belowRow (unhide HA) (Nat.le_refl _) _); clear c0X c1X c2X c0Y c1Y c2Y c0A c1A c2A c0B c1B c2B c0E1 c1E1 c0E2 c1E2; replace HLX := hide ((unhide HLX).below hb); replace HLY := hide ((unhide HLY).below hb); replace HLA := hide ((unhide HLA).below hb); replace HLB := hide ((unhide HLB).below hb); replace HCE1 := hide (box_below (unhide HCE1) hb); replace HCE2 := hide (box_below (unhide HCE2) hb); replace HBU : Hid (Below N u U15) := (unhide HBU).trans (hb.mono (unhide HNW)); replace HNW : Hid (N ≤ U15.heap.size) := Nat.le_trans (unhide HNW) hb.size; have HCC1 := HYY; clear hb HY HA HZ HYY HEE HEKC1; obtain ⟨c0X, c1X, c2X⟩ := (unhide HLX).cells; obtain ⟨c0Y, c1Y, c2Y⟩ := (unhide HLY).cells; obtain ⟨c0A, c1A, c2A⟩ := (unhide HLA).cells; obtain ⟨c0B, c1B, c2B⟩ := (unhide HLB).cells; obtain ⟨c0E1, c1E1⟩ := en_cells (unhide HCE1); obtain ⟨c0E2, c1E2⟩ := en_cells (unhide HCE2); obtain ⟨c0C1, c1C1⟩ := ce_cells (unhide HCC1); )
    | (go_at_call 28; refine (oPack (o := o) (unhide HLX).toSx _ _ _ (unhide HPM)).mono ?_; rintro e U16 ⟨rfl, hb⟩; clear c0X c1X c2X c0Y c1Y c2Y c0A c1A c2A c0B c1B c2B c0E1 c1E1 c0E2 c1E2 c0C1 c1C1; replace HLX := hide ((unhide HLX).below hb); replace HLY := hide ((unhide HLY).below hb); replace HLA := hide ((unhide HLA).below hb); replace HLB := hide ((unhide HLB).below hb); replace HCE1 := hide (box_below (unhide HCE1) hb); replace HCE2 := hide (box_below (unhide HCE2) hb); replace HCC1 := hide (box_below (unhide HCC1) hb); replace HBU : Hid (Below N u U16) := (unhide HBU).trans (hb.mono (unhide HNW)); replace HNW : Hid (N ≤ U16.heap.size) := Nat.le_trans (unhide HNW) hb.size; clear hb; obtain ⟨c0X, c1X, c2X⟩ := (unhide HLX).cells; obtain ⟨c0Y, c1Y, c2Y⟩ := (unhide HLY).cells; obtain ⟨c0A, c1A, c2A⟩ := (unhide HLA).cells; obtain ⟨c0B, c1B, c2B⟩ := (unhide HLB).cells; obtain ⟨c0E1, c1E1⟩ := en_cells (unhide HCE1); obtain ⟨c0E2, c1E2⟩ := en_cells (unhide HCE2); obtain ⟨c0C1, c1C1⟩ := ce_cells (unhide HCC1); )
    | ((with_reducible refine wpList_alloc_ce (by rfl) (by rfl) (some 22) (by rfl) _ rfl ?_); intro U17 HY HA HZ; obtain ⟨KC2, hKC2⟩ : ∃ k, k = U16.heap.size := ⟨_, rfl⟩; rw [← hKC2] at HY HA HZ ⊢; have HEKC2 := hide hKC2; clear hKC2; simp only [Act.put, List.setIfInBounds_toArray, List.set_cons_zero, List.set_cons_succ])
    | ((with_reducible refine wpList_store_ce (by rfl) (.tmp 22) (.tmp 143) (by rfl) KC2 pk pz (by with_unfolding_all rfl) (by with_unfolding_all rfl) _ _ (unhide HY) ?_); intro U18 HYY HEE; simp only [Act.put]; have hb : Below U16.heap.size U16 U18 := (by rw [unhide HEE, ← unhide HEKC2]; exact belowRow (unhide HA) (Nat.le_refl _) _); clear c0X c1X c2X c0Y c1Y c2Y c0A c1A c2A c0B c1B c2B c0E1 c1E1 c0E2 c1E2 c0C1 c1C1; replace HLX := hide ((unhide HLX).below hb); replace HLY := hide ((unhide HLY).below hb); replace HLA := hide ((unhide HLA).below hb); replace HLB := hide ((unhide HLB).below hb); replace HCE1 := hide (box_below (unhide HCE1) hb); replace HCE2 := hide (box_below (unhide HCE2) hb); replace HCC1 := hide (box_below (unhide HCC1) hb); replace HBU : Hid (Below N u U18) := (unhide HBU).trans (hb.mono (unhide HNW)); replace HNW : Hid (N ≤ U18.heap.size) := Nat.le_trans (unhide HNW) hb.size; have HCC2 := HYY; clear hb HY HA HZ HYY HEE HEKC2; obtain ⟨c0X, c1X, c2X⟩ := (unhide HLX).cells; obtain ⟨c0Y, c1Y, c2Y⟩ := (unhide HLY).cells; obtain ⟨c0A, c1A, c2A⟩ := (unhide HLA).cells; obtain ⟨c0B, c1B, c2B⟩ := (unhide HLB).cells; obtain ⟨c0E1, c1E1⟩ := en_cells (unhide HCE1); obtain ⟨c0E2, c1E2⟩ := en_cells (unhide HCE2); obtain ⟨c0C1, c1C1⟩ := ce_cells (unhide HCC1); obtain ⟨c0C2, c1C2⟩ := ce_cells (unhide HCC2); )
    | fail)
  go_ret
  exact ⟨rfl, unhide HBU⟩
end Go.Proofs.Ytkcbljmjhlnjpaa
