/- Nodes: the walk of NodeChecks (written by mknse.py). -/
import Derived.Test.YtppmpomfihalfaaNrz
import Derived.Test.YtppmpomfihalfaaNsd
namespace Go.Proofs.Ytppmpomfihalfaa
open Go.RowKit

theorem entNc : ∀ args (w : World), (callFunc 18 args).run Try.prog w = .ok (.enter 18 args) w := by
  intro args w
  go_simp
theorem entRc : ∀ args (w : World), (callFunc 19 args).run Try.prog w = .ok (.enter 19 args) w := by
  intro args w
  go_simp
theorem entNs : ∀ args (w : World), (callFunc 20 args).run Try.prog w = .ok (.enter 20 args) w := by
  intro args w
  go_simp
theorem entRs : ∀ args (w : World), (callFunc 21 args).run Try.prog w = .ok (.enter 21 args) w := by
  intro args w
  go_simp
theorem nCheckF (n : Nd) (a : Nv) (u : World) (h : NdAt u n a) : Calls Try.prog 18 #[a.v n] u fun e u' => ∃ v, e = .returned v ∧ v = .int .i64 n.check ∧ Below u.heap.size u u' :=
  (nCheck n a u h).mono fun _ _ hh => ⟨_, hh.1, rfl, hh.2⟩
theorem rCheckF (n : Nd) (a : Nv) (u : World) (h : NdAt u n a) (hf : n.Few) : Calls Try.prog 19 #[a.v n] u fun e u' => ∃ v, e = .returned v ∧ v = .int .i64 n.check ∧ Below u.heap.size u u' :=
  (rCheck n a u h hf.sumD).mono fun _ _ hh => ⟨_, hh.1, rfl, hh.2⟩
set_option maxRecDepth 100000 in
set_option maxHeartbeats 8000000 in
theorem checks8_walk (n : Nd) (a : Nv) (u : World) (h : NdAt u n a) (hn : a.Nil) (hf : n.Few) : Calls Try.prog 3 #[a.v n] u fun e u' => e = .returned (.bool true) ∧ Below u.heap.size u u' := by
  have H1 := hide (fun (v : World) (hv : Below u.heap.size u v) => lLent n a v (h.below hv) hn hf)
  have HRF := hide (fun (v : World) (hv : Below u.heap.size u v) => rEncode n a v (h.below hv) hf)
  have HNF := hide (fun (v : World) (b : Nv) (hv : NdAt v n b) => nEncode n b v hv)
  have HA := hide h
  have HP10 := hide (fun (v : World) (b : Nv) (hv : NdAt v n b) => nCheckF n b v hv)
  have HP20 := hide (fun (v : World) (b : Nv) (hv : NdAt v n b) => nSizeF n b v hv)
  have HD10 := hide (fun (v : World) (hv : NdAt v n a) => rCheckF n a v hv hf)
  have HD20 := hide (fun (v : World) (hv : NdAt v n a) => rSizeF n a v hv hf)
  have HKE0 := hide (fun (v : World) (b : Nv) (B : Nat) (hv : NdAt v n a) (hl : Le v B n b) => lKeptF n a b B v hv hn hf hl)
  have HOV0 := hide (fun (v : World) (b : Nv) (B : Nat) (hl : Le v B n b) => lOver n b B v hl hf)
  have HF := hide hf
  have HM2 := hide (fun (m : Nd) (hm : m.leaf = n.leaf ∧ m.cells.length = n.cells.length ∧ m.keys.length = n.keys.length ∧ m.kids.length = n.kids.length) => (show m.Few from ⟨by rw [hm.2.1]; exact hf.1, by rw [hm.2.2.1]; exact hf.2.1, by rw [hm.2.2.2]; exact hf.2.2⟩))
  have HV : Hid (∀ (m : Nd) (b : Nv), m.leaf = n.leaf ∧ m.cells.length = n.cells.length ∧ m.keys.length = n.keys.length ∧ m.kids.length = n.kids.length → b.v m = .agg #[.bool n.leaf, .slice b.ca n.cells.length b.cc, .slice b.ka n.keys.length b.kc, .slice b.ga n.kids.length b.gc]) := fun m b hm => by rw [Nv.v_eq, hm.1, hm.2.1, hm.2.2.1, hm.2.2.2]
  obtain ⟨N, hN⟩ : ∃ N, N = u.heap.size := ⟨_, rfl⟩
  have HN := hide hN
  rw [← hN] at H1 HRF ⊢
  clear hN h hn hf
  obtain ⟨ca, cc, ka, kc, ga, gc⟩ := a
  have hav := unhide HV n ⟨ca, cc, ka, kc, ga, gc⟩ ⟨rfl, rfl, rfl, rfl⟩
  rw [hav] at H1 HRF HD10 HD20 ⊢
  clear hav
  obtain ⟨X, hX⟩ : ∃ X, X = n.enc.1 := ⟨_, rfl⟩
  obtain ⟨Y, hY⟩ : ∃ Y, Y = n.enc.2 := ⟨_, rfl⟩
  rw [← hX, ← hY] at HRF HNF
  clear hX hY
  generalize n.check = C at *
  generalize n.psz = Z at *
  obtain ⟨cn, hcn⟩ : ∃ cn, cn = n.cells.length := ⟨_, rfl⟩
  obtain ⟨kn, hkn⟩ : ∃ kn, kn = n.keys.length := ⟨_, rfl⟩
  obtain ⟨gn, hgn⟩ : ∃ gn, gn = n.kids.length := ⟨_, rfl⟩
  obtain ⟨lf, hlf⟩ : ∃ lf, lf = n.leaf := ⟨_, rfl⟩
  rw [← hcn, ← hkn, ← hgn, ← hlf] at H1 HRF HD10 HD20 HV HM2 HOV0 ⊢
  have HCN := hide hcn
  have HKN := hide hkn
  have HGN := hide hgn
  have HLF := hide hlf
  clear hcn hkn hgn hlf
  go_enter Try.func3, Try.ntmps3
  go_wp2_with (first
    | ((with_reducible refine wpList_box_node (by rfl) (.tmp 0) (by rfl) (some 1) (by rfl) N (unhide HN) lf ca cn cc ka kn kc ga gn gc (by with_unfolding_all rfl) ?_); intro W0 HX0 HB0 HS0; simp only [Act.put, List.setIfInBounds_toArray, List.set_cons_zero, List.set_cons_succ]; obtain ⟨y0, y1, y2, y3⟩ := box4 (unhide HX0))
    | fail)
  refine (unhide H1 W0 (unhide HB0)).mono ?_
  rintro e W1 ⟨b, rfl, hle, hb1⟩
  have HLE := hide hle
  have HBB := hide hb1
  have HX1 := hide (box_below (unhide HX0) hb1)
  have hbv := unhide HV n b ⟨unhide HLF ▸ rfl, unhide HCN ▸ rfl, unhide HKN ▸ rfl, unhide HGN ▸ rfl⟩
  rw [hbv]
  clear hle hb1 y0 y1 y2 y3
  obtain ⟨M, hM⟩ : ∃ M, M = W1.heap.size := ⟨_, rfl⟩
  have HM := hide hM
  clear hM
  go_wp2_with (first
    | ((with_reducible refine wpList_alloc_node (by rfl) (by rfl) (some 3) (by rfl) M (unhide HM) ?_); intro W3 HX3 HB3 HS3; simp only [Act.put, List.setIfInBounds_toArray, List.set_cons_zero, List.set_cons_succ])
    | ((with_reducible refine wpList_store_node (by rfl) (.tmp 3) (.tmp 10) (by rfl) M lf b.ca cn b.cc b.ka kn b.kc b.ga gn b.gc (by with_unfolding_all rfl) (by with_unfolding_all rfl) (unhide HX3) ?_); intro W4 HX4 HE4; simp only [Act.put]; have HB4 : Hid (Below W1.heap.size W1 W4) := (by rw [unhide HE4, ← unhide HM]; exact belowRow (unhide HB3) (Nat.le_refl _) _); have HX4b := hide (box_below (unhide HX1) (unhide HB4)); obtain ⟨y0, y1, y2, y3⟩ := box4 (unhide HX4b))
    | fail)
  have HS4 : Hid (Fs u W4 N M n ⟨ca, cc, ka, kc, ga, gc⟩ b #[.bool lf, .slice ca cn cc, .slice ka kn kc, .slice ga gn gc] #[.bool lf, .slice b.ca cn b.cc, .slice b.ka kn b.kc, .slice b.ga gn b.gc]) := by
    have hs0 := unhide HS0
    have hbu : Below N u W4 := (unhide HB0).trans (((unhide HBB).mono (by omega)).trans ((unhide HB4).mono (by have := (unhide HBB).size; omega)))
    refine ⟨hbu, ?_, unhide HX4b, unhide HX4, (unhide HA).below (by rw [← unhide HN]; exact hbu), ?_⟩
    · have := (Array.getElem?_eq_some_iff.1 (unhide HX4b)).1; omega
    · have h1 := (unhide HLE).below (unhide HB4)
      rw [hs0] at h1
      exact ⟨h1.at_, own_down h1.own.c (by omega), own_down h1.own.k (by omega), own_down h1.own.g (by omega)⟩
  clear HX3 HB3 HS3 HX4 HE4 HB4 HX4b HX1 HBB HLE HX0 HB0 HS0 H1 HM
  refine (unhide HRF W4 (unhide HS4).bel).mono ?_
  rintro e V1 ⟨rfl, hb1⟩
  have HS5 := hide ((unhide HS4).below hb1)
  clear hb1 HS4 y0 y1 y2 y3 HRF
  obtain ⟨y0, y1, y2, y3⟩ := box4 (unhide HS5).inn
  have HC5 := hide (unhide HNF V1 b (unhide HS5).le.at_)
  rw [hbv] at HC5
  go_wp2_with fail
  refine (unhide HC5).mono ?_
  rintro e V2 ⟨rfl, hb2⟩
  have HS6 := hide ((unhide HS5).below hb2)
  clear hb2 HS5 y0 y1 y2 y3 HC5 HNF
  have HP1 : Hid (∀ v : World, Fs u v N M n ⟨ca, cc, ka, kc, ga, gc⟩ b #[.bool lf, .slice ca cn cc, .slice ka kn kc, .slice ga gn gc] #[.bool lf, .slice b.ca cn b.cc, .slice b.ka kn b.kc, .slice b.ga gn b.gc] → Calls Try.prog 18 #[.agg #[.bool lf, .slice b.ca cn b.cc, .slice b.ka kn b.kc, .slice b.ga gn b.gc]] v fun e u' => ∃ r, e = .returned r ∧ r = .int .i64 C ∧ Below v.heap.size v u') := fun v hv => by
    have := unhide HP10 v b hv.le.at_
    rwa [hbv] at this
  have HP2 : Hid (∀ v : World, Fs u v N M n ⟨ca, cc, ka, kc, ga, gc⟩ b #[.bool lf, .slice ca cn cc, .slice ka kn kc, .slice ga gn gc] #[.bool lf, .slice b.ca cn b.cc, .slice b.ka kn b.kc, .slice b.ga gn b.gc] → Calls Try.prog 20 #[.agg #[.bool lf, .slice b.ca cn b.cc, .slice b.ka kn b.kc, .slice b.ga gn b.gc]] v fun e u' => ∃ r, e = .returned r ∧ r = .int .i64 Z ∧ Below v.heap.size v u') := fun v hv => by
    have := unhide HP20 v b hv.le.at_
    rwa [hbv] at this
  have HD1 : Hid (∀ v : World, Fs u v N M n ⟨ca, cc, ka, kc, ga, gc⟩ b #[.bool lf, .slice ca cn cc, .slice ka kn kc, .slice ga gn gc] #[.bool lf, .slice b.ca cn b.cc, .slice b.ka kn b.kc, .slice b.ga gn b.gc] → Calls Try.prog 19 #[.agg #[.bool lf, .slice ca cn cc, .slice ka kn kc, .slice ga gn gc]] v fun e u' => ∃ r, e = .returned r ∧ r = .int .i64 C ∧ Below v.heap.size v u') := fun v hv => unhide HD10 v hv.at_
  have HD2 : Hid (∀ v : World, Fs u v N M n ⟨ca, cc, ka, kc, ga, gc⟩ b #[.bool lf, .slice ca cn cc, .slice ka kn kc, .slice ga gn gc] #[.bool lf, .slice b.ca cn b.cc, .slice b.ka kn b.kc, .slice b.ga gn b.gc] → Calls Try.prog 21 #[.agg #[.bool lf, .slice ca cn cc, .slice ka kn kc, .slice ga gn gc]] v fun e u' => ∃ r, e = .returned r ∧ r = .int .i64 Z ∧ Below v.heap.size v u') := fun v hv => unhide HD20 v hv.at_
  have HKE : Hid (∀ v : World, Fs u v N M n ⟨ca, cc, ka, kc, ga, gc⟩ b #[.bool lf, .slice ca cn cc, .slice ka kn kc, .slice ga gn gc] #[.bool lf, .slice b.ca cn b.cc, .slice b.ka kn b.kc, .slice b.ga gn b.gc] → Calls Try.prog 22 #[.agg #[.bool lf, .slice b.ca cn b.cc, .slice b.ka kn b.kc, .slice b.ga gn b.gc], .agg #[.bool lf, .slice ca cn cc, .slice ka kn kc, .slice ga gn gc]] v fun e u' => ∃ r, e = .returned r ∧ r = .bool true ∧ Below v.heap.size v u') := fun v hv => by
    have h1 := unhide HKE0 v b N hv.at_ hv.le
    have hav := unhide HV n ⟨ca, cc, ka, kc, ga, gc⟩ ⟨unhide HLF ▸ rfl, unhide HCN ▸ rfl, unhide HKN ▸ rfl, unhide HGN ▸ rfl⟩
    rwa [hbv, hav] at h1
  go_wp2_with fail
  have hmix : Try.prog.follows .mixedOrders = true := by kernel_rfl
  refine wp_region_last (fun W => Fs u W N M n ⟨ca, cc, ka, kc, ga, gc⟩ b #[.bool lf, .slice ca cn cc, .slice ka kn kc, .slice ga gn gc] #[.bool lf, .slice b.ca cn b.cc, .slice b.ka kn b.kc, .slice b.ga gn b.gc]) 27 hmix ((unhide HS6).below (belowDrewN (Below.refl _ _) 1)) fun hS => ?_
  refine wpAnyL_take 0 21 (.agg #[.bool lf, .slice b.ca cn b.cc, .slice b.ka kn b.kc, .slice b.ga gn b.gc]) [1, 3, 5, 9, 12, 17, 22] rfl rfl (by kernel_rfl) (by kernel_rfl) (by kernel_rfl) (by kernel_rfl) (by kernel_rfl) (fun _ _ _ h => h) (by rfl) (fun W hW => by obtain ⟨x0, x1, x2, x3⟩ := box4 hW.inn; go_simp) hS ?_
  simp only [Act.put, List.setIfInBounds_toArray, List.set_cons_zero, List.set_cons_succ]
  refine wpAnyL_take 2 23 (.agg #[.bool lf, .slice ca cn cc, .slice ka kn kc, .slice ga gn gc]) [3, 5, 9, 12, 17, 22] rfl rfl (by kernel_rfl) (by kernel_rfl) (by kernel_rfl) (by kernel_rfl) (by kernel_rfl) (fun _ _ _ h => h) (by rfl) (fun W hW => by obtain ⟨x0, x1, x2, x3⟩ := box4 hW.box; go_simp) hS ?_
  simp only [Act.put, List.setIfInBounds_toArray, List.set_cons_zero, List.set_cons_succ]
  refine wpAnyL_one (i := 1) (by kernel_rfl) rfl (by rfl) fun K hK => ?_
  refine wp_call_fn 18 _ _ (by rfl) #[.agg #[.bool lf, .slice b.ca cn b.cc, .slice b.ka kn b.kc, .slice b.ga gn b.gc]] (by with_unfolding_all rfl) entNc (some 22) (by rfl) _ (unhide HP1 _ hS) ?_
  rintro _ U1 ⟨rfl, hb5⟩
  have hS5 := hS.below hb5
  refine hK _ _ (fun _ => hS5) ?_
  clear hK K hS hb5
  have hS := hS5
  clear hS5
  simp only [Act.put, List.setIfInBounds_toArray, List.set_cons_zero, List.set_cons_succ]
  refine wpAnyL_one (i := 3) (by kernel_rfl) rfl (by rfl) fun K hK => ?_
  refine wp_call_fn 19 _ _ (by rfl) #[.agg #[.bool lf, .slice ca cn cc, .slice ka kn kc, .slice ga gn gc]] (by with_unfolding_all rfl) entRc (some 24) (by rfl) _ (unhide HD1 _ hS) ?_
  rintro _ U2 ⟨rfl, hb5⟩
  have hS5 := hS.below hb5
  refine hK _ _ (fun _ => hS5) ?_
  clear hK K hS hb5
  have hS := hS5
  clear hS5
  simp only [Act.put, List.setIfInBounds_toArray, List.set_cons_zero, List.set_cons_succ]
  refine wpAnyL_take 4 25 (.bool false) [5, 9, 12, 17, 22] rfl rfl (by kernel_rfl) (by kernel_rfl) (by kernel_rfl) (by kernel_rfl) (by kernel_rfl) (fun _ _ _ h => h) (by rfl) (fun u _ => by go_simp) hS ?_
  simp only [Act.put, List.setIfInBounds_toArray, List.set_cons_zero, List.set_cons_succ]
  refine wpAnyL_take 5 26 (.bool false) [9, 12, 17, 22] rfl rfl (by kernel_rfl) (by kernel_rfl) (by kernel_rfl) (by kernel_rfl) (by kernel_rfl) (fun _ _ _ h => h) (by rfl) (fun u _ => by go_simp) hS ?_
  simp only [Act.put, List.setIfInBounds_toArray, List.set_cons_zero, List.set_cons_succ]
  refine wpAnyL_take 6 27 (.agg #[.bool lf, .slice b.ca cn b.cc, .slice b.ka kn b.kc, .slice b.ga gn b.gc]) [7, 9, 12, 17, 22] rfl rfl (by kernel_rfl) (by kernel_rfl) (by kernel_rfl) (by kernel_rfl) (by kernel_rfl) (fun _ _ _ h => h) (by rfl) (fun W hW => by obtain ⟨x0, x1, x2, x3⟩ := box4 hW.inn; go_simp) hS ?_
  simp only [Act.put, List.setIfInBounds_toArray, List.set_cons_zero, List.set_cons_succ]
  refine wpAnyL_take 8 29 (.agg #[.bool lf, .slice ca cn cc, .slice ka kn kc, .slice ga gn gc]) [9, 12, 17, 22] rfl rfl (by kernel_rfl) (by kernel_rfl) (by kernel_rfl) (by kernel_rfl) (by kernel_rfl) (fun _ _ _ h => h) (by rfl) (fun W hW => by obtain ⟨x0, x1, x2, x3⟩ := box4 hW.box; go_simp) hS ?_
  simp only [Act.put, List.setIfInBounds_toArray, List.set_cons_zero, List.set_cons_succ]
  refine wpAnyL_one (i := 7) (by kernel_rfl) rfl (by rfl) fun K hK => ?_
  refine wp_call_fn 20 _ _ (by rfl) #[.agg #[.bool lf, .slice b.ca cn b.cc, .slice b.ka kn b.kc, .slice b.ga gn b.gc]] (by with_unfolding_all rfl) entNs (some 28) (by rfl) _ (unhide HP2 _ hS) ?_
  rintro _ U3 ⟨rfl, hb5⟩
  have hS5 := hS.below hb5
  refine hK _ _ (fun _ => hS5) ?_
  clear hK K hS hb5
  have hS := hS5
  clear hS5
  simp only [Act.put, List.setIfInBounds_toArray, List.set_cons_zero, List.set_cons_succ]
  refine wpAnyL_one (i := 9) (by kernel_rfl) rfl (by rfl) fun K hK => ?_
  refine wp_call_fn 21 _ _ (by rfl) #[.agg #[.bool lf, .slice ca cn cc, .slice ka kn kc, .slice ga gn gc]] (by with_unfolding_all rfl) entRs (some 30) (by rfl) _ (unhide HD2 _ hS) ?_
  rintro _ U4 ⟨rfl, hb5⟩
  have hS5 := hS.below hb5
  refine hK _ _ (fun _ => hS5) ?_
  clear hK K hS hb5
  have hS := hS5
  clear hS5
  simp only [Act.put, List.setIfInBounds_toArray, List.set_cons_zero, List.set_cons_succ]
  refine wpAnyL_take 10 31 (.bool false) [11, 12, 17, 22] rfl rfl (by kernel_rfl) (by kernel_rfl) (by kernel_rfl) (by kernel_rfl) (by kernel_rfl) (fun _ _ _ h => h) (by rfl) (fun u _ => by go_simp) hS ?_
  simp only [Act.put, List.setIfInBounds_toArray, List.set_cons_zero, List.set_cons_succ]
  refine wpAnyL_take 11 32 (.bool false) [12, 17, 22] rfl rfl (by kernel_rfl) (by kernel_rfl) (by kernel_rfl) (by kernel_rfl) (by kernel_rfl) (fun _ _ _ h => h) (by rfl) (fun u _ => by go_simp) hS ?_
  simp only [Act.put, List.setIfInBounds_toArray, List.set_cons_zero, List.set_cons_succ]
  refine wpAnyL_take 12 33 (.bool false) [17, 22] rfl rfl (by kernel_rfl) (by kernel_rfl) (by kernel_rfl) (by kernel_rfl) (by kernel_rfl) (fun _ _ _ h => h) (by rfl) (fun u _ => by go_simp) hS ?_
  simp only [Act.put, List.setIfInBounds_toArray, List.set_cons_zero, List.set_cons_succ]
  refine wpAnyL_take 13 34 (.string X) [15, 16, 17, 22] rfl rfl (by kernel_rfl) (by kernel_rfl) (by kernel_rfl) (by kernel_rfl) (by kernel_rfl) (fun _ _ _ h => h) (by rfl) (fun u _ => by go_simp) hS ?_
  simp only [Act.put, List.setIfInBounds_toArray, List.set_cons_zero, List.set_cons_succ]
  refine wpAnyL_take 14 35 (.string X) [15, 16, 17, 22] rfl rfl (by kernel_rfl) (by kernel_rfl) (by kernel_rfl) (by kernel_rfl) (by kernel_rfl) (fun _ _ _ h => h) (by rfl) (fun u _ => by go_simp) hS ?_
  simp only [Act.put, List.setIfInBounds_toArray, List.set_cons_zero, List.set_cons_succ]
  refine wpAnyL_take 15 36 (.bool false) [16, 17, 22] rfl rfl (by kernel_rfl) (by kernel_rfl) (by kernel_rfl) (by kernel_rfl) (by kernel_rfl) (fun _ _ _ h => h) (by rfl) (fun u _ => by go_simp) hS ?_
  simp only [Act.put, List.setIfInBounds_toArray, List.set_cons_zero, List.set_cons_succ]
  refine wpAnyL_take 16 37 (.bool false) [17, 22] rfl rfl (by kernel_rfl) (by kernel_rfl) (by kernel_rfl) (by kernel_rfl) (by kernel_rfl) (fun _ _ _ h => h) (by rfl) (fun u _ => by go_simp) hS ?_
  simp only [Act.put, List.setIfInBounds_toArray, List.set_cons_zero, List.set_cons_succ]
  refine wpAnyL_take 17 38 (.bool false) [22] rfl rfl (by kernel_rfl) (by kernel_rfl) (by kernel_rfl) (by kernel_rfl) (by kernel_rfl) (fun _ _ _ h => h) (by rfl) (fun u _ => by go_simp) hS ?_
  simp only [Act.put, List.setIfInBounds_toArray, List.set_cons_zero, List.set_cons_succ]
  refine wpAnyL_take 18 39 (.int .i64 Y) [20, 21, 22] rfl rfl (by kernel_rfl) (by kernel_rfl) (by kernel_rfl) (by kernel_rfl) (by kernel_rfl) (fun _ _ _ h => h) (by rfl) (fun u _ => by go_simp) hS ?_
  simp only [Act.put, List.setIfInBounds_toArray, List.set_cons_zero, List.set_cons_succ]
  refine wpAnyL_take 19 40 (.int .i64 Y) [20, 21, 22] rfl rfl (by kernel_rfl) (by kernel_rfl) (by kernel_rfl) (by kernel_rfl) (by kernel_rfl) (fun _ _ _ h => h) (by rfl) (fun u _ => by go_simp) hS ?_
  simp only [Act.put, List.setIfInBounds_toArray, List.set_cons_zero, List.set_cons_succ]
  refine wpAnyL_take 20 41 (.bool false) [21, 22] rfl rfl (by kernel_rfl) (by kernel_rfl) (by kernel_rfl) (by kernel_rfl) (by kernel_rfl) (fun _ _ _ h => h) (by rfl) (fun u _ => by go_simp) hS ?_
  simp only [Act.put, List.setIfInBounds_toArray, List.set_cons_zero, List.set_cons_succ]
  refine wpAnyL_take 21 42 (.bool false) [22] rfl rfl (by kernel_rfl) (by kernel_rfl) (by kernel_rfl) (by kernel_rfl) (by kernel_rfl) (fun _ _ _ h => h) (by rfl) (fun u _ => by go_simp) hS ?_
  simp only [Act.put, List.setIfInBounds_toArray, List.set_cons_zero, List.set_cons_succ]
  refine wpAnyL_take 22 43 (.bool false) [] rfl rfl (by kernel_rfl) (by kernel_rfl) (by kernel_rfl) (by kernel_rfl) (by kernel_rfl) (fun _ _ _ h => h) (by rfl) (fun u _ => by go_simp) hS ?_
  simp only [Act.put, List.setIfInBounds_toArray, List.set_cons_zero, List.set_cons_succ]
  refine wpAnyL_take 23 44 (.agg #[.bool lf, .slice b.ca cn b.cc, .slice b.ka kn b.kc, .slice b.ga gn b.gc]) [25, 26] rfl rfl (by kernel_rfl) (by kernel_rfl) (by kernel_rfl) (by kernel_rfl) (by kernel_rfl) (fun _ _ _ h => h) (by rfl) (fun W hW => by obtain ⟨x0, x1, x2, x3⟩ := box4 hW.inn; go_simp) hS ?_
  simp only [Act.put, List.setIfInBounds_toArray, List.set_cons_zero, List.set_cons_succ]
  refine wpAnyL_take 24 45 (.agg #[.bool lf, .slice ca cn cc, .slice ka kn kc, .slice ga gn gc]) [25, 26] rfl rfl (by kernel_rfl) (by kernel_rfl) (by kernel_rfl) (by kernel_rfl) (by kernel_rfl) (fun _ _ _ h => h) (by rfl) (fun W hW => by obtain ⟨x0, x1, x2, x3⟩ := box4 hW.box; go_simp) hS ?_
  simp only [Act.put, List.setIfInBounds_toArray, List.set_cons_zero, List.set_cons_succ]
  refine wpAnyL_one (i := 25) (by kernel_rfl) rfl (by rfl) fun K hK => ?_
  refine wp_call_fn 22 _ _ (by rfl) #[.agg #[.bool lf, .slice b.ca cn b.cc, .slice b.ka kn b.kc, .slice b.ga gn b.gc], .agg #[.bool lf, .slice ca cn cc, .slice ka kn kc, .slice ga gn gc]] (by with_unfolding_all rfl) entKe (some 46) (by rfl) _ (unhide HKE _ hS) ?_
  rintro _ W7 ⟨rfl, hb5⟩
  have hS5 := hS.below hb5
  refine hK _ _ (fun _ => hS5) ?_
  clear hK K hS hb5
  have hS := hS5
  clear hS5
  simp only [Act.put, List.setIfInBounds_toArray, List.set_cons_zero, List.set_cons_succ]
  refine wpAnyL_take 26 47 (.bool false) [] rfl rfl (by kernel_rfl) (by kernel_rfl) (by kernel_rfl) (by kernel_rfl) (by kernel_rfl) (fun _ _ _ h => h) (by rfl) (fun u _ => by go_simp) hS ?_
  simp only [Act.put, List.setIfInBounds_toArray, List.set_cons_zero, List.set_cons_succ]
  refine wpAnyL_one (i := 27) (by kernel_rfl) rfl (by rfl) fun K hK => ?_
  refine wp_val (.bool false) (by go_simp) (some 48) (by rfl) ?_
  have HS7 := hide hS
  refine hK _ _ (fun h => absurd rfl h) ?_
  clear hK K hS
  simp only [Act.put, List.setIfInBounds_toArray, List.set_cons_zero, List.set_cons_succ]
  refine wpAnyL_done (by kernel_rfl) ?_ _
  clear HP1 HP2 HD1 HD2 HKE HP10 HP20 HD10 HD20 HKE0 HS6
  obtain ⟨y0, y1, y2, y3⟩ := box4 (unhide HS7).inn
  have HC7 := hide (unhide HOV0 W7 b N (unhide HS7).le)
  rw [hbv] at HC7
  go_wp2_with fail
  refine (unhide HC7).mono ?_
  rintro e W8 ⟨rfl, m, hmlf, hmln, hmat, hup⟩
  have hm : m.leaf = lf ∧ m.cells.length = cn ∧ m.keys.length = kn ∧ m.kids.length = gn := ⟨hmlf, hmln⟩
  have HMF := hide (unhide HM2 m hm)
  have hbm := unhide HV m b hm
  have HMV : Hid (∀ x : Nv, x.v m = .agg #[.bool lf, .slice x.ca cn x.cc, .slice x.ka kn x.kc, .slice x.ga gn x.gc]) := fun x => unhide HV m x hm
  have HB8 : Hid (Below N u W8) := (unhide HS7).bel.trans (hup.below (fun x hx => ((unhide HS7).le.blk x hx).1) (unhide HS7).hN)
  have HI8 := hide (hup.node (unhide HS7).le (unhide HS7).inn)
  have HZ8 : Hid (N ≤ W8.heap.size) := Nat.le_trans (unhide HS7).hN hup.size
  have HT8 := hide (lTwin m b W8 hmat (unhide HS7).le.nil (by have := unhide HMF; have h1 := this.1; have h2 := this.2.1; have h3 := this.2.2; omega))
  have HD8 := hide hmat
  rw [hbm] at HT8
  clear HC7 HS7 y0 y1 y2 y3 hup hmat hmlf hmln hm HOV0 HM2
  obtain ⟨y0, y1, y2, y3⟩ := box4 (unhide HI8)
  go_wp2_with fail
  refine (unhide HT8).mono ?_
  rintro e W9 ⟨c, rfl, hct, _, hb9⟩
  have HCT := hide hct
  have HI9 := hide (box_below (unhide HI8) hb9)
  have HB9 : Hid (Below N u W9) := (unhide HB8).trans (hb9.mono (unhide HZ8))
  have HZ9 : Hid (N ≤ W9.heap.size) := Nat.le_trans (unhide HZ8) hb9.size
  have HD9 := hide ((unhide HD8).below hb9)
  rw [unhide HMV c]
  clear hct hb9 HT8 HI8 HB8 HZ8 HD8 y0 y1 y2 y3
  obtain ⟨M2, hM2⟩ : ∃ M2, M2 = W9.heap.size := ⟨_, rfl⟩
  have HM2 := hide hM2
  clear hM2
  go_wp2_with (first
    | ((with_reducible refine wpList_alloc_node (by rfl) (by rfl) (some 8) (by rfl) M2 (unhide HM2) ?_); intro W10 HX10 HB10 HS10; simp only [Act.put, List.setIfInBounds_toArray, List.set_cons_zero, List.set_cons_succ])
    | ((with_reducible refine wpList_store_node (by rfl) (.tmp 8) (.tmp 52) (by rfl) M2 lf c.ca cn c.cc c.ka kn c.kc c.ga gn c.gc (by with_unfolding_all rfl) (by with_unfolding_all rfl) (unhide HX10) ?_); intro W11 HX11 HE11; simp only [Act.put]; obtain ⟨y0, y1, y2, y3⟩ := box4 (unhide HX11))
    | fail)
  have HS11 : Hid (Fo u W11 N M M2 m b c #[.bool lf, .slice b.ca cn b.cc, .slice b.ka kn b.kc, .slice b.ga gn b.gc] #[.bool lf, .slice c.ca cn c.cc, .slice c.ka kn c.kc, .slice c.ga gn c.gc]) := by
    have hb : Below W9.heap.size W9 W11 := by rw [unhide HE11, ← unhide HM2]; exact belowRow (unhide HB10) (Nat.le_refl _) _
    exact ⟨(unhide HB9).trans (hb.mono (unhide HZ9)), Nat.le_trans (unhide HZ9) hb.size, box_below (unhide HI9) hb, unhide HX11, (unhide HD9).below hb, (unhide HCT).below hb⟩
  clear HX10 HB10 HS10 HX11 HE11 HI9 HB9 HZ9 HD9 HCT HM2
  obtain ⟨X2, hX2⟩ : ∃ X, X = m.enc.1 := ⟨_, rfl⟩
  obtain ⟨Y2, hY2⟩ : ∃ Y, Y = m.enc.2 := ⟨_, rfl⟩
  obtain ⟨C2, hC2⟩ : ∃ C, C = m.check := ⟨_, rfl⟩
  obtain ⟨Z2, hZ2⟩ : ∃ Z, Z = m.psz := ⟨_, rfl⟩
  have HC11 := hide (rEncode m c W11 (unhide HS11).tw (unhide HMF))
  rw [unhide HMV c, ← hX2, ← hY2] at HC11
  have HNF2 := hide (fun (v : World) (hv : NdAt v m b) => nEncode m b v hv)
  have HP120 := hide (fun (v : World) (hv : NdAt v m b) => nCheckF m b v hv)
  have HP220 := hide (fun (v : World) (hv : NdAt v m b) => nSizeF m b v hv)
  have HD120 := hide (fun (v : World) (hv : NdAt v m c) => rCheckF m c v hv (unhide HMF))
  have HD220 := hide (fun (v : World) (hv : NdAt v m c) => rSizeF m c v hv (unhide HMF))
  rw [unhide HMV b, ← hX2, ← hY2] at HNF2
  rw [unhide HMV b, ← hC2] at HP120
  rw [unhide HMV b, ← hZ2] at HP220
  rw [unhide HMV c, ← hC2] at HD120
  rw [unhide HMV c, ← hZ2] at HD220
  clear hX2 hY2 hC2 hZ2
  refine (unhide HC11).mono ?_
  rintro e V11 ⟨rfl, hb11⟩
  have HS12 := hide ((unhide HS11).below hb11)
  clear hb11 HS11 HC11 y0 y1 y2 y3
  obtain ⟨y0, y1, y2, y3⟩ := box4 (unhide HS12).inn
  go_wp2_with fail
  refine (unhide HNF2 V11 (unhide HS12).at_).mono ?_
  rintro e V12 ⟨rfl, hb12⟩
  have HS13 := hide ((unhide HS12).below hb12)
  clear hb12 HS12 HNF2 y0 y1 y2 y3
  have HP12 : Hid (∀ v : World, Fo u v N M M2 m b c #[.bool lf, .slice b.ca cn b.cc, .slice b.ka kn b.kc, .slice b.ga gn b.gc] #[.bool lf, .slice c.ca cn c.cc, .slice c.ka kn c.kc, .slice c.ga gn c.gc] → Calls Try.prog 18 #[.agg #[.bool lf, .slice b.ca cn b.cc, .slice b.ka kn b.kc, .slice b.ga gn b.gc]] v fun e u' => ∃ r, e = .returned r ∧ r = .int .i64 C2 ∧ Below v.heap.size v u') := fun v hv => unhide HP120 v hv.at_
  have HP22 : Hid (∀ v : World, Fo u v N M M2 m b c #[.bool lf, .slice b.ca cn b.cc, .slice b.ka kn b.kc, .slice b.ga gn b.gc] #[.bool lf, .slice c.ca cn c.cc, .slice c.ka kn c.kc, .slice c.ga gn c.gc] → Calls Try.prog 20 #[.agg #[.bool lf, .slice b.ca cn b.cc, .slice b.ka kn b.kc, .slice b.ga gn b.gc]] v fun e u' => ∃ r, e = .returned r ∧ r = .int .i64 Z2 ∧ Below v.heap.size v u') := fun v hv => unhide HP220 v hv.at_
  have HD12 : Hid (∀ v : World, Fo u v N M M2 m b c #[.bool lf, .slice b.ca cn b.cc, .slice b.ka kn b.kc, .slice b.ga gn b.gc] #[.bool lf, .slice c.ca cn c.cc, .slice c.ka kn c.kc, .slice c.ga gn c.gc] → Calls Try.prog 19 #[.agg #[.bool lf, .slice c.ca cn c.cc, .slice c.ka kn c.kc, .slice c.ga gn c.gc]] v fun e u' => ∃ r, e = .returned r ∧ r = .int .i64 C2 ∧ Below v.heap.size v u') := fun v hv => unhide HD120 v hv.tw
  have HD22 : Hid (∀ v : World, Fo u v N M M2 m b c #[.bool lf, .slice b.ca cn b.cc, .slice b.ka kn b.kc, .slice b.ga gn b.gc] #[.bool lf, .slice c.ca cn c.cc, .slice c.ka kn c.kc, .slice c.ga gn c.gc] → Calls Try.prog 21 #[.agg #[.bool lf, .slice c.ca cn c.cc, .slice c.ka kn c.kc, .slice c.ga gn c.gc]] v fun e u' => ∃ r, e = .returned r ∧ r = .int .i64 Z2 ∧ Below v.heap.size v u') := fun v hv => unhide HD220 v hv.tw
  go_wp2_with fail
  refine wp_region_last (fun W => Fo u W N M M2 m b c #[.bool lf, .slice b.ca cn b.cc, .slice b.ka kn b.kc, .slice b.ga gn b.gc] #[.bool lf, .slice c.ca cn c.cc, .slice c.ka kn c.kc, .slice c.ga gn c.gc]) 22 hmix ((unhide HS13).below (belowDrewN (Below.refl _ _) 1)) fun hS => ?_
  refine wpAnyL_take 0 63 (.agg #[.bool lf, .slice b.ca cn b.cc, .slice b.ka kn b.kc, .slice b.ga gn b.gc]) [] rfl rfl (by kernel_rfl) (by kernel_rfl) (by kernel_rfl) (by kernel_rfl) (by kernel_rfl) (fun _ _ _ h => h) (by rfl) (fun W hW => by obtain ⟨x0, x1, x2, x3⟩ := box4 hW.inn; go_simp) hS ?_
  simp only [Act.put, List.setIfInBounds_toArray, List.set_cons_zero, List.set_cons_succ]
  refine wpAnyL_take 2 65 (.agg #[.bool lf, .slice c.ca cn c.cc, .slice c.ka kn c.kc, .slice c.ga gn c.gc]) [] rfl rfl (by kernel_rfl) (by kernel_rfl) (by kernel_rfl) (by kernel_rfl) (by kernel_rfl) (fun _ _ _ h => h) (by rfl) (fun W hW => by obtain ⟨x0, x1, x2, x3⟩ := box4 hW.now; go_simp) hS ?_
  simp only [Act.put, List.setIfInBounds_toArray, List.set_cons_zero, List.set_cons_succ]
  refine wpAnyL_one (i := 1) (by kernel_rfl) rfl (by rfl) fun K hK => ?_
  refine wp_call_fn 18 _ _ (by rfl) #[.agg #[.bool lf, .slice b.ca cn b.cc, .slice b.ka kn b.kc, .slice b.ga gn b.gc]] (by with_unfolding_all rfl) entNc (some 64) (by rfl) _ (unhide HP12 _ hS) ?_
  rintro _ U1 ⟨rfl, hb5⟩
  have hS5 := hS.below hb5
  refine hK _ _ (fun _ => hS5) ?_
  clear hK K hS hb5
  have hS := hS5
  clear hS5
  simp only [Act.put, List.setIfInBounds_toArray, List.set_cons_zero, List.set_cons_succ]
  refine wpAnyL_one (i := 3) (by kernel_rfl) rfl (by rfl) fun K hK => ?_
  refine wp_call_fn 19 _ _ (by rfl) #[.agg #[.bool lf, .slice c.ca cn c.cc, .slice c.ka kn c.kc, .slice c.ga gn c.gc]] (by with_unfolding_all rfl) entRc (some 66) (by rfl) _ (unhide HD12 _ hS) ?_
  rintro _ U2 ⟨rfl, hb5⟩
  have hS5 := hS.below hb5
  refine hK _ _ (fun _ => hS5) ?_
  clear hK K hS hb5
  have hS := hS5
  clear hS5
  simp only [Act.put, List.setIfInBounds_toArray, List.set_cons_zero, List.set_cons_succ]
  refine wpAnyL_take 4 67 (.bool true) [] rfl rfl (by kernel_rfl) (by kernel_rfl) (by kernel_rfl) (by kernel_rfl) (by kernel_rfl) (fun _ _ _ h => h) (by rfl) (fun u _ => by go_simp) hS ?_
  simp only [Act.put, List.setIfInBounds_toArray, List.set_cons_zero, List.set_cons_succ]
  refine wpAnyL_take 5 68 (.bool true) [] rfl rfl (by kernel_rfl) (by kernel_rfl) (by kernel_rfl) (by kernel_rfl) (by kernel_rfl) (fun _ _ _ h => h) (by rfl) (fun u _ => by go_simp) hS ?_
  simp only [Act.put, List.setIfInBounds_toArray, List.set_cons_zero, List.set_cons_succ]
  refine wpAnyL_take 6 69 (.agg #[.bool lf, .slice b.ca cn b.cc, .slice b.ka kn b.kc, .slice b.ga gn b.gc]) [] rfl rfl (by kernel_rfl) (by kernel_rfl) (by kernel_rfl) (by kernel_rfl) (by kernel_rfl) (fun _ _ _ h => h) (by rfl) (fun W hW => by obtain ⟨x0, x1, x2, x3⟩ := box4 hW.inn; go_simp) hS ?_
  simp only [Act.put, List.setIfInBounds_toArray, List.set_cons_zero, List.set_cons_succ]
  refine wpAnyL_take 8 71 (.agg #[.bool lf, .slice c.ca cn c.cc, .slice c.ka kn c.kc, .slice c.ga gn c.gc]) [] rfl rfl (by kernel_rfl) (by kernel_rfl) (by kernel_rfl) (by kernel_rfl) (by kernel_rfl) (fun _ _ _ h => h) (by rfl) (fun W hW => by obtain ⟨x0, x1, x2, x3⟩ := box4 hW.now; go_simp) hS ?_
  simp only [Act.put, List.setIfInBounds_toArray, List.set_cons_zero, List.set_cons_succ]
  refine wpAnyL_one (i := 7) (by kernel_rfl) rfl (by rfl) fun K hK => ?_
  refine wp_call_fn 20 _ _ (by rfl) #[.agg #[.bool lf, .slice b.ca cn b.cc, .slice b.ka kn b.kc, .slice b.ga gn b.gc]] (by with_unfolding_all rfl) entNs (some 70) (by rfl) _ (unhide HP22 _ hS) ?_
  rintro _ U3 ⟨rfl, hb5⟩
  have hS5 := hS.below hb5
  refine hK _ _ (fun _ => hS5) ?_
  clear hK K hS hb5
  have hS := hS5
  clear hS5
  simp only [Act.put, List.setIfInBounds_toArray, List.set_cons_zero, List.set_cons_succ]
  refine wpAnyL_one (i := 9) (by kernel_rfl) rfl (by rfl) fun K hK => ?_
  refine wp_call_fn 21 _ _ (by rfl) #[.agg #[.bool lf, .slice c.ca cn c.cc, .slice c.ka kn c.kc, .slice c.ga gn c.gc]] (by with_unfolding_all rfl) entRs (some 72) (by rfl) _ (unhide HD22 _ hS) ?_
  rintro _ U4 ⟨rfl, hb5⟩
  have hS5 := hS.below hb5
  refine hK _ _ (fun _ => hS5) ?_
  clear hK K hS hb5
  have hS := hS5
  clear hS5
  simp only [Act.put, List.setIfInBounds_toArray, List.set_cons_zero, List.set_cons_succ]
  refine wpAnyL_take 10 73 (.bool true) [] rfl rfl (by kernel_rfl) (by kernel_rfl) (by kernel_rfl) (by kernel_rfl) (by kernel_rfl) (fun _ _ _ h => h) (by rfl) (fun u _ => by go_simp) hS ?_
  simp only [Act.put, List.setIfInBounds_toArray, List.set_cons_zero, List.set_cons_succ]
  refine wpAnyL_take 11 74 (.bool true) [] rfl rfl (by kernel_rfl) (by kernel_rfl) (by kernel_rfl) (by kernel_rfl) (by kernel_rfl) (fun _ _ _ h => h) (by rfl) (fun u _ => by go_simp) hS ?_
  simp only [Act.put, List.setIfInBounds_toArray, List.set_cons_zero, List.set_cons_succ]
  refine wpAnyL_take 12 75 (.bool true) [] rfl rfl (by kernel_rfl) (by kernel_rfl) (by kernel_rfl) (by kernel_rfl) (by kernel_rfl) (fun _ _ _ h => h) (by rfl) (fun u _ => by go_simp) hS ?_
  simp only [Act.put, List.setIfInBounds_toArray, List.set_cons_zero, List.set_cons_succ]
  refine wpAnyL_take 13 76 (.string X2) [] rfl rfl (by kernel_rfl) (by kernel_rfl) (by kernel_rfl) (by kernel_rfl) (by kernel_rfl) (fun _ _ _ h => h) (by rfl) (fun u _ => by go_simp) hS ?_
  simp only [Act.put, List.setIfInBounds_toArray, List.set_cons_zero, List.set_cons_succ]
  refine wpAnyL_take 14 77 (.string X2) [] rfl rfl (by kernel_rfl) (by kernel_rfl) (by kernel_rfl) (by kernel_rfl) (by kernel_rfl) (fun _ _ _ h => h) (by rfl) (fun u _ => by go_simp) hS ?_
  simp only [Act.put, List.setIfInBounds_toArray, List.set_cons_zero, List.set_cons_succ]
  refine wpAnyL_take 15 78 (.bool true) [] rfl rfl (by kernel_rfl) (by kernel_rfl) (by kernel_rfl) (by kernel_rfl) (by kernel_rfl) (fun _ _ _ h => h) (by rfl) (fun u _ => by go_simp) hS ?_
  simp only [Act.put, List.setIfInBounds_toArray, List.set_cons_zero, List.set_cons_succ]
  refine wpAnyL_take 16 79 (.bool true) [] rfl rfl (by kernel_rfl) (by kernel_rfl) (by kernel_rfl) (by kernel_rfl) (by kernel_rfl) (fun _ _ _ h => h) (by rfl) (fun u _ => by go_simp) hS ?_
  simp only [Act.put, List.setIfInBounds_toArray, List.set_cons_zero, List.set_cons_succ]
  refine wpAnyL_take 17 80 (.bool true) [] rfl rfl (by kernel_rfl) (by kernel_rfl) (by kernel_rfl) (by kernel_rfl) (by kernel_rfl) (fun _ _ _ h => h) (by rfl) (fun u _ => by go_simp) hS ?_
  simp only [Act.put, List.setIfInBounds_toArray, List.set_cons_zero, List.set_cons_succ]
  refine wpAnyL_take 18 81 (.int .i64 Y2) [] rfl rfl (by kernel_rfl) (by kernel_rfl) (by kernel_rfl) (by kernel_rfl) (by kernel_rfl) (fun _ _ _ h => h) (by rfl) (fun u _ => by go_simp) hS ?_
  simp only [Act.put, List.setIfInBounds_toArray, List.set_cons_zero, List.set_cons_succ]
  refine wpAnyL_take 19 82 (.int .i64 Y2) [] rfl rfl (by kernel_rfl) (by kernel_rfl) (by kernel_rfl) (by kernel_rfl) (by kernel_rfl) (fun _ _ _ h => h) (by rfl) (fun u _ => by go_simp) hS ?_
  simp only [Act.put, List.setIfInBounds_toArray, List.set_cons_zero, List.set_cons_succ]
  refine wpAnyL_take 20 83 (.bool true) [] rfl rfl (by kernel_rfl) (by kernel_rfl) (by kernel_rfl) (by kernel_rfl) (by kernel_rfl) (fun _ _ _ h => h) (by rfl) (fun u _ => by go_simp) hS ?_
  simp only [Act.put, List.setIfInBounds_toArray, List.set_cons_zero, List.set_cons_succ]
  refine wpAnyL_take 21 84 (.bool true) [] rfl rfl (by kernel_rfl) (by kernel_rfl) (by kernel_rfl) (by kernel_rfl) (by kernel_rfl) (fun _ _ _ h => h) (by rfl) (fun u _ => by go_simp) hS ?_
  simp only [Act.put, List.setIfInBounds_toArray, List.set_cons_zero, List.set_cons_succ]
  refine wpAnyL_one (i := 22) (by kernel_rfl) rfl (by rfl) fun K hK => ?_
  refine wp_val (.bool true) (by go_simp) (some 2) (by rfl) ?_
  have HS7 := hide hS
  refine hK _ _ (fun h => absurd rfl h) ?_
  clear hK K hS
  simp only [Act.put, List.setIfInBounds_toArray, List.set_cons_zero, List.set_cons_succ]
  refine wpAnyL_done (by kernel_rfl) ?_ _
  go_wp2
  go_ret
  exact ⟨rfl, (unhide HS7).bel⟩
end Go.Proofs.Ytppmpomfihalfaa
